/-
 CONTRACT of layer 11's beginsRegex: by the last token.
-/
import Derived.Test.YtmbfdkiejneheaaGreatDoorLxW4
import Derived.Test.YtmbfdkiejneheaaGreatDoorOrd
import Derived.Maps.AppendAt
import Derived.BigQuiet
import Derived.Deep.RegionHeld3
namespace Go.Proofs.YtmbfdkiejneheaaGreatDoor
open Go.RowKit

theorem setCell_block {w : World} {b i : Nat} {cur : Array Value} {e : TypeId} {fz : Nat × Nat} (h : w.heap[b]? = some (.cells cur e fz)) (v : Value) :
  (w.setCell ⟨b, i, none⟩ v).heap[b]? = some (.cells (cur.setIfInBounds i v) e fz) := by
 have hlt : b < w.heap.size := (Array.getElem?_eq_some_iff.1 h).1
 have hv : w.heap[b] = .cells cur e fz := (Array.getElem?_eq_some_iff.1 h).2
 unfold World.setCell
 rw [Array.getElem?_eq_getElem (by simpa using hlt), Array.getElem_modify]
 simp [hv]
theorem block_cell {w : World} {b i : Nat} {cur : Array Value} {e : TypeId} {fz : Nat × Nat} (h : w.heap[b]? = some (.cells cur e fz)) : w.cell? ⟨b, i, none⟩ = cur[i]? := by
 simp [World.cell?, h]
theorem block_frozen {w : World} {b i : Nat} {cur : Array Value} {e : TypeId} (h : w.heap[b]? = some (.cells cur e (0, 0))) : w.frozen? ⟨b, i, none⟩ = false := by
 simp [World.frozen?, h]
theorem block_lt {w : World} {b : Nat} {o : Obj} (h : w.heap[b]? = some o) : b < w.heap.size := (Array.getElem?_eq_some_iff.1 h).1
theorem own_succ {W : World} {base : Nat} {e : TypeId} {size : Nat} {v : Value} {k : Nat} {xs : List Value} (h : W.ownsRow base e size v (k + 1) xs) : ∃ g cap, v = .slice (some ⟨g, 0, none⟩) (k + 1) cap := by
 rcases h.2 with ⟨_, h0⟩ | ⟨g, cap, _, rfl, _⟩
 ·
  omega
 ·
  exact ⟨g, cap, rfl⟩
theorem own_base {w : World} {B : Nat} {e : TypeId} {z : Nat} {v : Value} {n : Nat} {xs : List Value} (h : w.ownsRow B e z v n xs) : ∀ g, v.ownBlock = some g → B ≤ g ∧ g < w.heap.size := by
 intro g hg
 rcases h.2 with ⟨rfl, _⟩ | ⟨g', cap, cur, rfl, hB, hgg, _⟩
 ·
  simp [Value.ownBlock] at hg
 ·
  simp [Value.ownBlock] at hg
  subst hg
  exact ⟨hB, block_lt hgg⟩
theorem own_kept {w w' : World} {B : Nat} {e : TypeId} {z : Nat} {v : Value} {n : Nat} {xs : List Value} (h : w.ownsRow B e z v n xs) (hk : ∀ g, v.ownBlock = some g → w'.heap[g]? = w.heap[g]?) : w'.ownsRow B e z v n xs := by
 refine ⟨h.1, ?_⟩
 rcases h.2 with h2 | ⟨g, cap, cur, rfl, hB, hgg, h3⟩
 ·
  exact .inl h2
 ·
  exact .inr ⟨g, cap, cur, rfl, hB, (hk g rfl).trans hgg, h3⟩
theorem own_below {w w' : World} {B C : Nat} {e : TypeId} {z : Nat} {v : Value} {n : Nat} {xs : List Value} (h : w.ownsRow B e z v n xs) (hb : Below C w w') (hC : w.heap.size ≤ C) : w'.ownsRow B e z v n xs :=
 own_kept h fun g hg => hb.block g (by have := own_base h g hg; omega)

def Tok.vals (t : Tok) : List Value := [.int .i64 t.k, .string ⟨t.t.toArray⟩, .int .i64 t.a]
def tokRow : List Tok → List Value
 | [] => []
 | t :: l => t.vals ++ tokRow l
theorem tokRow_append : ∀ (l m : List Tok), tokRow (l ++ m) = tokRow l ++ tokRow m
 | [], _ => rfl
 | t :: l, m => by show t.vals ++ tokRow (l ++ m) = _; rw [tokRow_append l m]; simp [tokRow]
theorem tokRow_get : ∀ (l : List Tok) (i j : Nat) (h : i < l.length), j < 3 → (tokRow l)[i * 3 + j]? = l[i].vals[j]?
 | t :: l, 0, j, _, hj => by
  show (t.vals ++ tokRow l)[0 * 3 + j]? = t.vals[j]?
  rw [List.getElem?_append_left (by show 0 * 3 + j < 3; omega), show 0 * 3 + j = j from by omega]
 | t :: l, i + 1, j, h, hj => by
  show (t.vals ++ tokRow l)[(i + 1) * 3 + j]? = (l[i]'(by simpa using h)).vals[j]?
  rw [List.getElem?_append_right (by show 3 ≤ (i + 1) * 3 + j; omega), show (i + 1) * 3 + j - t.vals.length = i * 3 + j from by show (i + 1) * 3 + j - 3 = _; omega]
  exact tokRow_get l i j (by simpa using h) hj

/-- The reader in block b of a text: where it stands, is the place wrong, its tokens. -/
structure RsV (b : Nat) (w : World) (s : ByteArray) (p : Nat) (bad : Bool) (l : List Tok) (v : Value) : Prop where
 blk : w.heap[b]? = some (.cells #[.string s, .int .i64 p, .bool bad, v] 47 (0, 0))
 row : w.ownsRow (b + 1) 60 3 v l.length (tokRow l)
def Rs (b : Nat) (w : World) (s : ByteArray) (p : Nat) (bad : Bool) (l : List Tok) : Prop := ∃ v, RsV b w s p bad l v
theorem RsV.lt {b : Nat} {w : World} {s : ByteArray} {p : Nat} {bad : Bool} {l : List Tok} {v : Value} (h : RsV b w s p bad l v) : b < w.heap.size := block_lt h.blk
/-- Its cells. -/
def RC (b : Nat) (s : ByteArray) (p : Nat) (bad : Bool) (v : Value) (w : World) : Prop :=
 (w.cell? ⟨b, 0, none⟩ = some (.string s) ∧ w.cell? ⟨b, 1, none⟩ = some (.int .i64 p) ∧ w.cell? ⟨b, 2, none⟩ = some (.bool bad) ∧ w.cell? ⟨b, 3, none⟩ = some v) ∧ w.frozen? ⟨b, 1, none⟩ = false ∧ w.frozen? ⟨b, 2, none⟩ = false ∧ w.frozen? ⟨b, 3, none⟩ = false
theorem RC.of {b : Nat} {s : ByteArray} {p : Nat} {bad : Bool} {v : Value} {w : World} (h : w.heap[b]? = some (.cells #[.string s, .int .i64 p, .bool bad, v] 47 (0, 0))) : RC b s p bad v w :=
 ⟨⟨block_cell h, block_cell h, block_cell h, block_cell h⟩, block_frozen h, block_frozen h, block_frozen h⟩
theorem RC.drew {b : Nat} {s : ByteArray} {p : Nat} {bad : Bool} {v : Value} {w : World} (h : RC b s p bad v w) : RC b s p bad v w.drew := h
theorem RsV.cells {b : Nat} {w : World} {s : ByteArray} {p : Nat} {bad : Bool} {l : List Tok} {v : Value} (h : RsV b w s p bad l v) : RC b s p bad v w := RC.of h.blk
theorem RsV.below {b C : Nat} {w w' : World} {s : ByteArray} {p : Nat} {bad : Bool} {l : List Tok} {v : Value} (h : RsV b w s p bad l v) (hb : Below C w w') (hC : w.heap.size ≤ C) : RsV b w' s p bad l v :=
 ⟨(hb.block b (Nat.lt_of_lt_of_le h.lt hC)).trans h.blk, own_below h.row hb hC⟩
theorem RsV.alloc {b : Nat} {w : World} {s : ByteArray} {p : Nat} {bad : Bool} {l : List Tok} {v : Value} (h : RsV b w s p bad l v) (o : Obj) : RsV b (w.alloc o) s p bad l v :=
 h.below ((Below.refl w.heap.size w).alloc (Nat.le_refl _) o) (Nat.le_refl _)
theorem RsV.drew {b : Nat} {w : World} {s : ByteArray} {p : Nat} {bad : Bool} {l : List Tok} {v : Value} (h : RsV b w s p bad l v) : RsV b w.drew s p bad l v := ⟨h.blk, h.row⟩
theorem RsV.setAt {b : Nat} {w : World} {s : ByteArray} {p : Nat} {bad : Bool} {l : List Tok} {v : Value} (h : RsV b w s p bad l v) (q : Nat) : RsV b (w.setCell ⟨b, 1, none⟩ (.int .i64 q)) s q bad l v :=
 ⟨setCell_block h.blk _, own_kept h.row fun g hg => Below.heap_setCell w _ _ g (by have := own_base h.row g hg; show g ≠ b; omega)⟩
theorem RsV.setBad {b : Nat} {w : World} {s : ByteArray} {p : Nat} {bad : Bool} {l : List Tok} {v : Value} (h : RsV b w s p bad l v) (q : Bool) : RsV b (w.setCell ⟨b, 2, none⟩ (.bool q)) s p q l v :=
 ⟨setCell_block h.blk _, own_kept h.row fun g hg => Below.heap_setCell w _ _ g (by have := own_base h.row g hg; show g ≠ b; omega)⟩
/-- Behind an append to its tokens: the row stored back. -/
theorem RsV.put {b : Nat} {w w' : World} {s : ByteArray} {p : Nat} {bad : Bool} {l : List Tok} {v v' : Value} (h : RsV b w s p bad l v) (hg : w.grownBy w' v.ownBlock) (t : Tok) (ho : w'.ownsRow (b + 1) 60 3 v' (l.length + 1) (tokRow l ++ t.vals)) :
  RsV b (w'.setCell ⟨b, 3, none⟩ v') s p bad (l ++ [t]) v' := by
 have hbk : w'.heap[b]? = some (.cells #[.string s, .int .i64 p, .bool bad, v] 47 (0, 0)) := (hg.block b h.lt (fun e => by have := own_base h.row b e.symm; omega)).trans h.blk
 refine ⟨setCell_block hbk _, ?_⟩
 have e : tokRow (l ++ [t]) = tokRow l ++ t.vals := by rw [tokRow_append]; simp [tokRow]
 rw [e, List.length_append]
 exact own_kept ho fun g hg => Below.heap_setCell w' _ _ g (by have := own_base ho g hg; show g ≠ b; omega)
theorem tok_new {b : Nat} (w : World) (t : Tok) (hb : w.heap.size = b) : ∀ (j : Nat) (u : Value), t.vals[j]? = some u → (w.alloc (.cells #[.int .i64 t.k, .string ⟨t.t.toArray⟩, .int .i64 t.a] 60)).cell? (Addr.add ⟨b, 0, none⟩ j) = some u := by
 subst hb
 intro j u hj
 match j, hj with
 | 0, hj => simp [Tok.vals] at hj; subst hj; simp [Addr.add, go_sem]
 | 1, hj => simp [Tok.vals] at hj; subst hj; simp [Addr.add, go_sem]
 | 2, hj => simp [Tok.vals] at hj; subst hj; simp [Addr.add, go_sem]
 | n + 3, hj => simp [Tok.vals] at hj
theorem Tryz.infoTok : (Tryz.prog.info? 60).map (fun i => (i.zero, i.size, i.bytes)) = some (some (.agg #[.int .i64 0, .string ⟨#[]⟩, .int .i64 0]), 3, 32) := by kernel_rfl
theorem lclone_any (s : ByteArray) (w : World) (hs : s.size ≤ 100000) : Calls Tryz.prog 35 #[.string s] w fun e w' => e = .returned (.string s) ∧ Below w.heap.size w w' := by
 have C := Tryz.stringslite_Clone s w (by omega)
 go_enter Tryz.func35, Tryz.ntmps35
 go_wp2_with (refine C.mono ?_; rintro e w1 ⟨rfl, hb1⟩)
 go_ret
 exact ⟨rfl, hb1⟩
def AdPost (b : Nat) (s : ByteArray) (p : Nat) (bad : Bool) (l : List Tok) (w : World) (e : Ending) (w' : World) : Prop := e = .returned (.tuple #[]) ∧ Rs b w' s p bad l ∧ Below b w w'
theorem fail_any (b : Nat) (s : ByteArray) (p q : Nat) (bad : Bool) (l : List Tok) (w : World) (h : Rs b w s p bad l) :
  Calls Tryz.prog 46 #[.pointer (some ⟨b, 0, none⟩), .int .i64 (q : Int)] w fun e w' => e = .returned (.bool false) ∧ Rs b w' s q true l ∧ Below b w w' := by
 obtain ⟨v, h⟩ := h
 obtain ⟨⟨c0, c1, c2, c3⟩, f1, f2, f3⟩ := h.cells
 have HE := kH (show Rs b ((w.setCell ⟨b, 1, none⟩ (.int .i64 q)).setCell ⟨b, 2, none⟩ (.bool true)) s q true l ∧ Below b w ((w.setCell ⟨b, 1, none⟩ (.int .i64 q)).setCell ⟨b, 2, none⟩ (.bool true)) from
  ⟨⟨v, (h.setAt q).setBad true⟩, ((Below.refl b w).setCell (Nat.le_refl b) _).setCell (Nat.le_refl b) _⟩)
 clear h
 go_enter Tryz.func46, Tryz.ntmps46
 go_wp2
 go_ret
 exact ⟨rfl, HE.out⟩
set_option maxHeartbeats 2000000 in
set_option maxRecDepth 100000 in
theorem add_any (b : Nat) (s : ByteArray) (p : Nat) (bad : Bool) (l : List Tok) (k : Nat) (t : ByteArray) (z : Nat) (w : World) (h : Rs b w s p bad l) (ht : t.size ≤ 100000) (hl : l.length ≤ 100000) (hp : p ≤ 100000) (hz : z ≤ 100000) :
  Calls Tryz.prog 20 #[.pointer (some ⟨b, 0, none⟩), .int .i64 (k : Int), .string t, .int .i64 (z : Int)] w (AdPost b s (p + z) bad (l ++ [⟨k, t.data.toList, p⟩]) w) := by
 obtain ⟨v, h⟩ := h
 have C1 := kH fun W => lclone_any t W ht
 have HR := kH h
 have hc := h.cells
 have hlt := h.lt
 clear h ht
 obtain ⟨i0, hi, hz0, hz1, hz2⟩ := info_parts Tryz.infoTok
 go_enter Tryz.func20, Tryz.ntmps20
 go_wp2_with fail
 refine wp_region_L (st := [17]) (S := fun w' => RC b s p bad v w') (by kernel_rfl) (hc.drew) (fun hHeld => ?_)
 refine tkL 0 (v := ?_) rfl ?_ ?_
 rotate_left
 ·
  (intro w hSw; obtain ⟨⟨q0, q1, q2, q3⟩, k1, k2, k3⟩ := hSw; go_simp; try with_reducible rfl)
 try simp only [nrm]
 refine tkL 1 (v := ?_) rfl ?_ ?_
 rotate_left
 ·
  (intro w hSw; obtain ⟨⟨q0, q1, q2, q3⟩, k1, k2, k3⟩ := hSw; go_simp; try with_reducible rfl)
 try simp only [nrm]
 refine tkL 2 (v := ?_) rfl ?_ ?_
 rotate_left
 ·
  (intro w hSw; obtain ⟨⟨q0, q1, q2, q3⟩, k1, k2, k3⟩ := hSw; go_simp; try with_reducible rfl)
 try simp only [nrm]
 refine tkL 3 (v := ?_) rfl ?_ ?_
 rotate_left
 ·
  (intro w hSw; obtain ⟨⟨q0, q1, q2, q3⟩, k1, k2, k3⟩ := hSw; go_simp; try with_reducible rfl)
 try simp only [nrm]
 refine tkL 4 (v := ?_) rfl ?_ ?_
 rotate_left
 ·
  (intro w hSw; obtain ⟨⟨q0, q1, q2, q3⟩, k1, k2, k3⟩ := hSw; go_simp; try with_reducible rfl)
 try simp only [nrm]
 refine tkL 5 (v := ?_) rfl ?_ ?_
 rotate_left
 ·
  (intro w hSw; obtain ⟨⟨q0, q1, q2, q3⟩, k1, k2, k3⟩ := hSw; go_simp; try with_reducible rfl)
 try simp only [nrm]
 refine tkL 6 (v := ?_) rfl ?_ ?_
 rotate_left
 ·
  (intro w hSw; obtain ⟨⟨q0, q1, q2, q3⟩, k1, k2, k3⟩ := hSw; go_simp; try with_reducible rfl)
 try simp only [nrm]
 refine tkL 8 (v := ?_) rfl ?_ ?_
 rotate_left
 ·
  (intro w hSw; obtain ⟨⟨q0, q1, q2, q3⟩, k1, k2, k3⟩ := hSw; go_simp; try with_reducible rfl)
 try simp only [nrm]
 refine tkL 9 (v := ?_) rfl ?_ ?_
 rotate_left
 ·
  (intro w hSw; obtain ⟨⟨q0, q1, q2, q3⟩, k1, k2, k3⟩ := hSw; go_simp; try with_reducible rfl)
 try simp only [nrm]
 refine tkL 10 (v := ?_) rfl ?_ ?_
 rotate_left
 ·
  (intro w hSw; obtain ⟨⟨q0, q1, q2, q3⟩, k1, k2, k3⟩ := hSw; go_simp; try with_reducible rfl)
 try simp only [nrm]
 refine tkL 11 (v := ?_) rfl ?_ ?_
 rotate_left
 ·
  (intro w hSw; obtain ⟨⟨q0, q1, q2, q3⟩, k1, k2, k3⟩ := hSw; go_simp; try with_reducible rfl)
 try simp only [nrm]
 refine rdL 7 rfl (fun K hK => ?_)
 go_simp
 refine (C1.out _).mono ?_
 rintro e w8 ⟨rfl, hb8⟩
 have HR8 := kH (HR.out.drew.below hb8 (Nat.le_refl _))
 have HB8 := kH ((Below.refl b w).drew.trans (hb8.mono (show b ≤ w.drew.heap.size from Nat.le_of_lt hlt)))
 go_simp
 refine hK.out _ _ (HR8.out.cells) (fun hHeld => ?_)
 clear hK K
 try simp only [nrm]
 refine tkL 12 (v := ?_) rfl ?_ ?_
 rotate_left
 ·
  (intro w hSw; obtain ⟨⟨q0, q1, q2, q3⟩, k1, k2, k3⟩ := hSw; go_simp; try with_reducible rfl)
 try simp only [nrm]
 refine rdL 13 rfl (fun K hK => ?_)
 go_simp
 have HR9 := kH (HR8.out.alloc (.cells #[.int .i64 (k : Int), .string t, .int .i64 (p : Int)] 60))
 have HB9 := kH (HB8.out.alloc (Nat.le_of_lt HR8.out.lt) (.cells #[.int .i64 (k : Int), .string t, .int .i64 (p : Int)] 60))
 refine hK.out _ _ (HR9.out.cells) (fun hHeld => ?_)
 clear hK K
 try simp only [nrm]
 refine rdL 14 rfl (fun K hK => ?_)
 rw [if_pos (by rfl)]
 refine wp_append_own _ _ _ 38 rfl (b + 1) 60 i0 (.agg #[.int .i64 0, .string ⟨#[]⟩, .int .i64 0]) 3 32 Tryz.underlying38 hi hz0 hz1 hz2 rfl (by decide) v l.length (tokRow l) rfl HR9.out.row ⟨w8.heap.size, 0, none⟩ 1 1 (Tok.vals ⟨k, t.data.toList, p⟩) rfl rfl ?c1 ?c2 ?c3 ?c4 ?c5 ?_
 case c1 => exact tok_new w8 ⟨k, t.data.toList, p⟩ rfl
 case c2 => simp [Tok.vals, Value.oneCell']
 case c3 => unfold maxLen; omega
 case c4 => omega
 case c5 => have := HR9.out.lt; omega
 intro v' w9 hown9 hgrow9 _
 obtain ⟨g', cap', rfl⟩ := own_succ hown9
 have HE := kH (HR9.out.put hgrow9 ⟨k, t.data.toList, p⟩ hown9)
 have HB := kH (((HB9.out.grown hgrow9 (Nat.le_of_lt HR9.out.lt) (fun g e => Nat.le_of_succ_le (own_base HR9.out.row g e).1))).setCell (p := ⟨b, 3, none⟩) (Nat.le_refl b) (.slice (some ⟨g', 0, none⟩) (l.length + 1) cap'))
 have HC := kH (RC.of ((hgrow9.block b HR9.out.lt (fun e => by have := own_base HR9.out.row b e.symm; omega)).trans HR9.out.blk))
 clear hown9 hgrow9
 refine hK.out _ _ (HC.out) (fun hHeld => ?_)
 clear hK K
 try simp only [nrm]
 refine tkL 15 (v := ?_) rfl ?_ ?_
 rotate_left
 ·
  (intro w hSw; obtain ⟨⟨q0, q1, q2, q3⟩, k1, k2, k3⟩ := hSw; go_simp; try with_reducible rfl)
 try simp only [nrm]
 refine tkL 16 (v := ?_) rfl ?_ ?_
 rotate_left
 ·
  (intro w hSw; obtain ⟨⟨q0, q1, q2, q3⟩, k1, k2, k3⟩ := hSw; go_simp; try with_reducible rfl)
 try simp only [nrm]
 obtain ⟨⟨q0, q1, q2, q3⟩, k1, k2, k3⟩ := hHeld
 refine wpAnyL_ready (rs := [17]) (by kernel_rfl) (by simp) ?_
 refine AllReadyL.store (o := _) rfl (by decide) (by decide) (fun K hK => ?_) AllReadyL.nil
 go_simp
 refine hK.out _ _ ?_
 clear hK K
 try simp only [nrm]
 refine wpAnyL_done (by kernel_rfl) ?_ _
 have HR10 := kH HE.out.cells
 have hZ : (((p + z : Nat)) : Int) = (p : Int) + (z : Int) := by omega
 obtain ⟨⟨r0, r1, r2, r3⟩, m1, m2, m3⟩ := HR10.out
 clear q0 q1 q2 q3 k1 k2 k3
 go_wp2_with fail
 go_end0
 have hA := HE.out.setAt (p + z)
 have hB := HB.out.setCell (p := ⟨b, 1, none⟩) (Nat.le_refl b) (.int .i64 ((p + z : Nat) : Int))
 rw [hZ] at hA hB
 exact ⟨rfl, ⟨_, hA⟩, hB⟩
end Go.Proofs.YtmbfdkiejneheaaGreatDoor

namespace Go.Proofs.YtmbfdkiejneheaaGreatDoor
open Go.RowKit

theorem own_form {w : World} {B : Nat} {e : TypeId} {z : Nat} {v : Value} {n : Nat} {xs : List Value} (h : w.ownsRow B e z v n xs) : ∃ a c, v = .slice a n c := by
 rcases h.2 with ⟨rfl, rfl⟩ | ⟨g', cap, cur, rfl, _⟩
 ·
  exact ⟨_, _, rfl⟩
 ·
  exact ⟨_, _, rfl⟩
theorem rxL_snoc (m : List Tok) (x : Tok) : rxL (m ++ [x]) = rxA x.k x.t := by unfold rxL; rw [List.getLast?_concat]
theorem tok_cells {w : World} {B g c n : Nat} {m : List Tok} {x : Tok} (hn : m.length = n) (h : w.ownsRow B 60 3 (.slice (some ⟨g, 0, none⟩) (n + 1) c) (n + 1) (tokRow (m ++ [x]))) :
  w.cell? ⟨g, n * 3, none⟩ = some (.int .i64 x.k) ∧ w.cell? ⟨g, n * 3 + 1, none⟩ = some (.string ⟨x.t.toArray⟩) ∧ w.cell? ⟨g, n * 3 + 2, none⟩ = some (.int .i64 x.a) := by
 have hl : n < (m ++ [x]).length := by rw [List.length_append]; simp; omega
 have he : (m ++ [x])[n] = x := by subst hn; simp
 refine ⟨?_, ?_, ?_⟩
 ·
  rw [h.cellAt (n * 3) (by omega), show n * 3 = n * 3 + 0 from rfl, tokRow_get _ n 0 hl (by omega), he]; rfl
 ·
  rw [h.cellAt (n * 3 + 1) (by omega), tokRow_get _ n 1 hl (by omega), he]; rfl
 ·
  rw [h.cellAt (n * 3 + 2) (by omega), tokRow_get _ n 2 hl (by omega), he]; rfl
theorem begins_nil (b : Nat) (a : Option Addr) (c : Nat) (w : World) (c3 : w.cell? ⟨b, 3, none⟩ = some (.slice a 0 c)) :
  Calls Tryz.prog 29 #[.pointer (some ⟨b, 0, none⟩)] w fun e w' => e = .returned (.bool true) ∧ Below w.heap.size w w' := by
 go_enter Tryz.func29, Tryz.ntmps29
 go_wp2
 go_ret
 exact ⟨rfl, Below.refl _ _⟩
set_option maxHeartbeats 1000000 in
theorem begins_k2 (b g n c : Nat) (kk aa : Int) (T : ByteArray) (w : World) (c3 : w.cell? ⟨b, 3, none⟩ = some (.slice (some ⟨g, 0, none⟩) (n + 1) c)) (hn : n ≤ 100000)
  (d0 : w.cell? ⟨g, n * 3, none⟩ = some (.int .i64 kk)) (d1 : w.cell? ⟨g, n * 3 + 1, none⟩ = some (.string T)) (d2 : w.cell? ⟨g, n * 3 + 2, none⟩ = some (.int .i64 aa)) (hk : kk = 2) :
  Calls Tryz.prog 29 #[.pointer (some ⟨b, 0, none⟩)] w fun e w' => e = .returned (.bool false) ∧ Below w.heap.size w w' := by
 have e1 : ¬ ((n + 1 : Nat) : Int) = 0 := by omega
 have e2 : IntKind.i64.wrap (n : Int) = (n : Int) := by rw [IntKind.wrap_i64]; omega
 have e3 : (n : Int) < (n : Int) + 1 := by omega
 have e4 : 0 ≤ (n : Int) := by omega
 subst hk
 go_enter Tryz.func29, Tryz.ntmps29
 go_wp2_with fail
 go_region_held3 (fun w' => w'.cell? ⟨b, 3, none⟩ = some (.slice (some ⟨g, 0, none⟩) (n + 1) c) ∧ w'.cell? ⟨g, n * 3, none⟩ = some (.int .i64 2) ∧ w'.cell? ⟨g, n * 3 + 1, none⟩ = some (.string T) ∧ w'.cell? ⟨g, n * 3 + 2, none⟩ = some (.int .i64 aa)) (first | assumption | go_keep) (fail)
 go_wp2
 go_ret
 first | exact ⟨rfl, ((Below.refl _ _).alloc (Nat.le_refl _) _).drew⟩ | exact ⟨by simp, ((Below.refl _ _).alloc (Nat.le_refl _) _).drew⟩
set_option maxHeartbeats 1000000 in
theorem begins_k3 (b g n c : Nat) (kk aa : Int) (T : ByteArray) (w : World) (c3 : w.cell? ⟨b, 3, none⟩ = some (.slice (some ⟨g, 0, none⟩) (n + 1) c)) (hn : n ≤ 100000)
  (d0 : w.cell? ⟨g, n * 3, none⟩ = some (.int .i64 kk)) (d1 : w.cell? ⟨g, n * 3 + 1, none⟩ = some (.string T)) (d2 : w.cell? ⟨g, n * 3 + 2, none⟩ = some (.int .i64 aa)) (hk : kk = 3) :
  Calls Tryz.prog 29 #[.pointer (some ⟨b, 0, none⟩)] w fun e w' => e = .returned (.bool false) ∧ Below w.heap.size w w' := by
 have e1 : ¬ ((n + 1 : Nat) : Int) = 0 := by omega
 have e2 : IntKind.i64.wrap (n : Int) = (n : Int) := by rw [IntKind.wrap_i64]; omega
 have e3 : (n : Int) < (n : Int) + 1 := by omega
 have e4 : 0 ≤ (n : Int) := by omega
 subst hk
 go_enter Tryz.func29, Tryz.ntmps29
 go_wp2_with fail
 go_region_held3 (fun w' => w'.cell? ⟨b, 3, none⟩ = some (.slice (some ⟨g, 0, none⟩) (n + 1) c) ∧ w'.cell? ⟨g, n * 3, none⟩ = some (.int .i64 3) ∧ w'.cell? ⟨g, n * 3 + 1, none⟩ = some (.string T) ∧ w'.cell? ⟨g, n * 3 + 2, none⟩ = some (.int .i64 aa)) (first | assumption | go_keep) (fail)
 go_wp2
 go_ret
 first | exact ⟨rfl, ((Below.refl _ _).alloc (Nat.le_refl _) _).drew⟩ | exact ⟨by simp, ((Below.refl _ _).alloc (Nat.le_refl _) _).drew⟩
set_option maxHeartbeats 1000000 in
theorem begins_k4 (b g n c : Nat) (kk aa : Int) (T : ByteArray) (w : World) (c3 : w.cell? ⟨b, 3, none⟩ = some (.slice (some ⟨g, 0, none⟩) (n + 1) c)) (hn : n ≤ 100000)
  (d0 : w.cell? ⟨g, n * 3, none⟩ = some (.int .i64 kk)) (d1 : w.cell? ⟨g, n * 3 + 1, none⟩ = some (.string T)) (d2 : w.cell? ⟨g, n * 3 + 2, none⟩ = some (.int .i64 aa)) (hk : kk = 4) :
  Calls Tryz.prog 29 #[.pointer (some ⟨b, 0, none⟩)] w fun e w' => e = .returned (.bool false) ∧ Below w.heap.size w w' := by
 have e1 : ¬ ((n + 1 : Nat) : Int) = 0 := by omega
 have e2 : IntKind.i64.wrap (n : Int) = (n : Int) := by rw [IntKind.wrap_i64]; omega
 have e3 : (n : Int) < (n : Int) + 1 := by omega
 have e4 : 0 ≤ (n : Int) := by omega
 subst hk
 go_enter Tryz.func29, Tryz.ntmps29
 go_wp2_with fail
 go_region_held3 (fun w' => w'.cell? ⟨b, 3, none⟩ = some (.slice (some ⟨g, 0, none⟩) (n + 1) c) ∧ w'.cell? ⟨g, n * 3, none⟩ = some (.int .i64 4) ∧ w'.cell? ⟨g, n * 3 + 1, none⟩ = some (.string T) ∧ w'.cell? ⟨g, n * 3 + 2, none⟩ = some (.int .i64 aa)) (first | assumption | go_keep) (fail)
 go_wp2
 go_ret
 first | exact ⟨rfl, ((Below.refl _ _).alloc (Nat.le_refl _) _).drew⟩ | exact ⟨by simp, ((Below.refl _ _).alloc (Nat.le_refl _) _).drew⟩
set_option maxHeartbeats 1000000 in
theorem begins_k5 (b g n c : Nat) (kk aa : Int) (T : ByteArray) (w : World) (c3 : w.cell? ⟨b, 3, none⟩ = some (.slice (some ⟨g, 0, none⟩) (n + 1) c)) (hn : n ≤ 100000)
  (d0 : w.cell? ⟨g, n * 3, none⟩ = some (.int .i64 kk)) (d1 : w.cell? ⟨g, n * 3 + 1, none⟩ = some (.string T)) (d2 : w.cell? ⟨g, n * 3 + 2, none⟩ = some (.int .i64 aa)) (hk : kk = 5) :
  Calls Tryz.prog 29 #[.pointer (some ⟨b, 0, none⟩)] w fun e w' => e = .returned (.bool false) ∧ Below w.heap.size w w' := by
 have e1 : ¬ ((n + 1 : Nat) : Int) = 0 := by omega
 have e2 : IntKind.i64.wrap (n : Int) = (n : Int) := by rw [IntKind.wrap_i64]; omega
 have e3 : (n : Int) < (n : Int) + 1 := by omega
 have e4 : 0 ≤ (n : Int) := by omega
 subst hk
 go_enter Tryz.func29, Tryz.ntmps29
 go_wp2_with fail
 go_region_held3 (fun w' => w'.cell? ⟨b, 3, none⟩ = some (.slice (some ⟨g, 0, none⟩) (n + 1) c) ∧ w'.cell? ⟨g, n * 3, none⟩ = some (.int .i64 5) ∧ w'.cell? ⟨g, n * 3 + 1, none⟩ = some (.string T) ∧ w'.cell? ⟨g, n * 3 + 2, none⟩ = some (.int .i64 aa)) (first | assumption | go_keep) (fail)
 go_wp2
 go_ret
 first | exact ⟨rfl, ((Below.refl _ _).alloc (Nat.le_refl _) _).drew⟩ | exact ⟨by simp, ((Below.refl _ _).alloc (Nat.le_refl _) _).drew⟩
set_option maxHeartbeats 1000000 in
theorem begins_b1 (b g n c : Nat) (kk aa : Int) (T : ByteArray) (w : World) (c3 : w.cell? ⟨b, 3, none⟩ = some (.slice (some ⟨g, 0, none⟩) (n + 1) c)) (hn : n ≤ 100000)
  (d0 : w.cell? ⟨g, n * 3, none⟩ = some (.int .i64 kk)) (d1 : w.cell? ⟨g, n * 3 + 1, none⟩ = some (.string T)) (d2 : w.cell? ⟨g, n * 3 + 2, none⟩ = some (.int .i64 aa)) (hk : kk = 9) (_t : (T.toList == [108, 101, 110, 103, 116, 104]) = true) :
  Calls Tryz.prog 29 #[.pointer (some ⟨b, 0, none⟩)] w fun e w' => e = .returned (.bool false) ∧ Below w.heap.size w w' := by
 have e1 : ¬ ((n + 1 : Nat) : Int) = 0 := by omega
 have e2 : IntKind.i64.wrap (n : Int) = (n : Int) := by rw [IntKind.wrap_i64]; omega
 have e3 : (n : Int) < (n : Int) + 1 := by omega
 have e4 : 0 ≤ (n : Int) := by omega
 subst hk
 go_enter Tryz.func29, Tryz.ntmps29
 go_wp2_with fail
 go_region_held3 (fun w' => w'.cell? ⟨b, 3, none⟩ = some (.slice (some ⟨g, 0, none⟩) (n + 1) c) ∧ w'.cell? ⟨g, n * 3, none⟩ = some (.int .i64 9) ∧ w'.cell? ⟨g, n * 3 + 1, none⟩ = some (.string T) ∧ w'.cell? ⟨g, n * 3 + 2, none⟩ = some (.int .i64 aa)) (first | assumption | go_keep) (fail)
 go_wp2
 go_ret
 first | exact ⟨rfl, ((Below.refl _ _).alloc (Nat.le_refl _) _).drew⟩ | exact ⟨by simp, ((Below.refl _ _).alloc (Nat.le_refl _) _).drew⟩
set_option maxHeartbeats 1000000 in
theorem begins_b0 (b g n c : Nat) (kk aa : Int) (T : ByteArray) (w : World) (c3 : w.cell? ⟨b, 3, none⟩ = some (.slice (some ⟨g, 0, none⟩) (n + 1) c)) (hn : n ≤ 100000)
  (d0 : w.cell? ⟨g, n * 3, none⟩ = some (.int .i64 kk)) (d1 : w.cell? ⟨g, n * 3 + 1, none⟩ = some (.string T)) (d2 : w.cell? ⟨g, n * 3 + 2, none⟩ = some (.int .i64 aa)) (hk : kk = 9) (_t : (T.toList == [108, 101, 110, 103, 116, 104]) = false) :
  Calls Tryz.prog 29 #[.pointer (some ⟨b, 0, none⟩)] w fun e w' => e = .returned (.bool true) ∧ Below w.heap.size w w' := by
 have e1 : ¬ ((n + 1 : Nat) : Int) = 0 := by omega
 have e2 : IntKind.i64.wrap (n : Int) = (n : Int) := by rw [IntKind.wrap_i64]; omega
 have e3 : (n : Int) < (n : Int) + 1 := by omega
 have e4 : 0 ≤ (n : Int) := by omega
 subst hk
 go_enter Tryz.func29, Tryz.ntmps29
 go_wp2_with fail
 go_region_held3 (fun w' => w'.cell? ⟨b, 3, none⟩ = some (.slice (some ⟨g, 0, none⟩) (n + 1) c) ∧ w'.cell? ⟨g, n * 3, none⟩ = some (.int .i64 9) ∧ w'.cell? ⟨g, n * 3 + 1, none⟩ = some (.string T) ∧ w'.cell? ⟨g, n * 3 + 2, none⟩ = some (.int .i64 aa)) (first | assumption | go_keep) (fail)
 go_wp2
 go_ret
 first | exact ⟨rfl, ((Below.refl _ _).alloc (Nat.le_refl _) _).drew⟩ | exact ⟨by simp, ((Below.refl _ _).alloc (Nat.le_refl _) _).drew⟩
set_option maxHeartbeats 1000000 in
theorem begins_s0 (b g n c : Nat) (kk aa : Int) (T : ByteArray) (w : World) (c3 : w.cell? ⟨b, 3, none⟩ = some (.slice (some ⟨g, 0, none⟩) (n + 1) c)) (hn : n ≤ 100000)
  (d0 : w.cell? ⟨g, n * 3, none⟩ = some (.int .i64 kk)) (d1 : w.cell? ⟨g, n * 3 + 1, none⟩ = some (.string T)) (d2 : w.cell? ⟨g, n * 3 + 2, none⟩ = some (.int .i64 aa)) (hk : kk = 8) (_t0 : (T.toList == [41]) = true) :
  Calls Tryz.prog 29 #[.pointer (some ⟨b, 0, none⟩)] w fun e w' => e = .returned (.bool false) ∧ Below w.heap.size w w' := by
 have e1 : ¬ ((n + 1 : Nat) : Int) = 0 := by omega
 have e2 : IntKind.i64.wrap (n : Int) = (n : Int) := by rw [IntKind.wrap_i64]; omega
 have e3 : (n : Int) < (n : Int) + 1 := by omega
 have e4 : 0 ≤ (n : Int) := by omega
 subst hk
 go_enter Tryz.func29, Tryz.ntmps29
 go_wp2_with fail
 go_region_held3 (fun w' => w'.cell? ⟨b, 3, none⟩ = some (.slice (some ⟨g, 0, none⟩) (n + 1) c) ∧ w'.cell? ⟨g, n * 3, none⟩ = some (.int .i64 8) ∧ w'.cell? ⟨g, n * 3 + 1, none⟩ = some (.string T) ∧ w'.cell? ⟨g, n * 3 + 2, none⟩ = some (.int .i64 aa)) (first | assumption | go_keep) (fail)
 go_wp2
 go_ret
 first | exact ⟨rfl, ((Below.refl _ _).alloc (Nat.le_refl _) _).drew⟩ | exact ⟨by simp, ((Below.refl _ _).alloc (Nat.le_refl _) _).drew⟩
set_option maxHeartbeats 1000000 in
theorem begins_s1 (b g n c : Nat) (kk aa : Int) (T : ByteArray) (w : World) (c3 : w.cell? ⟨b, 3, none⟩ = some (.slice (some ⟨g, 0, none⟩) (n + 1) c)) (hn : n ≤ 100000)
  (d0 : w.cell? ⟨g, n * 3, none⟩ = some (.int .i64 kk)) (d1 : w.cell? ⟨g, n * 3 + 1, none⟩ = some (.string T)) (d2 : w.cell? ⟨g, n * 3 + 2, none⟩ = some (.int .i64 aa)) (hk : kk = 8) (_t0 : (T.toList == [41]) = false) (_t1 : (T.toList == [93]) = true) :
  Calls Tryz.prog 29 #[.pointer (some ⟨b, 0, none⟩)] w fun e w' => e = .returned (.bool false) ∧ Below w.heap.size w w' := by
 have e1 : ¬ ((n + 1 : Nat) : Int) = 0 := by omega
 have e2 : IntKind.i64.wrap (n : Int) = (n : Int) := by rw [IntKind.wrap_i64]; omega
 have e3 : (n : Int) < (n : Int) + 1 := by omega
 have e4 : 0 ≤ (n : Int) := by omega
 subst hk
 go_enter Tryz.func29, Tryz.ntmps29
 go_wp2_with fail
 go_region_held3 (fun w' => w'.cell? ⟨b, 3, none⟩ = some (.slice (some ⟨g, 0, none⟩) (n + 1) c) ∧ w'.cell? ⟨g, n * 3, none⟩ = some (.int .i64 8) ∧ w'.cell? ⟨g, n * 3 + 1, none⟩ = some (.string T) ∧ w'.cell? ⟨g, n * 3 + 2, none⟩ = some (.int .i64 aa)) (first | assumption | go_keep) (fail)
 go_wp2
 go_ret
 first | exact ⟨rfl, ((Below.refl _ _).alloc (Nat.le_refl _) _).drew⟩ | exact ⟨by simp, ((Below.refl _ _).alloc (Nat.le_refl _) _).drew⟩
set_option maxHeartbeats 1000000 in
theorem begins_s2 (b g n c : Nat) (kk aa : Int) (T : ByteArray) (w : World) (c3 : w.cell? ⟨b, 3, none⟩ = some (.slice (some ⟨g, 0, none⟩) (n + 1) c)) (hn : n ≤ 100000)
  (d0 : w.cell? ⟨g, n * 3, none⟩ = some (.int .i64 kk)) (d1 : w.cell? ⟨g, n * 3 + 1, none⟩ = some (.string T)) (d2 : w.cell? ⟨g, n * 3 + 2, none⟩ = some (.int .i64 aa)) (hk : kk = 8) (_t0 : (T.toList == [41]) = false) (_t1 : (T.toList == [93]) = false) (_t2 : (T.toList == [43, 43]) = true) :
  Calls Tryz.prog 29 #[.pointer (some ⟨b, 0, none⟩)] w fun e w' => e = .returned (.bool false) ∧ Below w.heap.size w w' := by
 have e1 : ¬ ((n + 1 : Nat) : Int) = 0 := by omega
 have e2 : IntKind.i64.wrap (n : Int) = (n : Int) := by rw [IntKind.wrap_i64]; omega
 have e3 : (n : Int) < (n : Int) + 1 := by omega
 have e4 : 0 ≤ (n : Int) := by omega
 subst hk
 go_enter Tryz.func29, Tryz.ntmps29
 go_wp2_with fail
 go_region_held3 (fun w' => w'.cell? ⟨b, 3, none⟩ = some (.slice (some ⟨g, 0, none⟩) (n + 1) c) ∧ w'.cell? ⟨g, n * 3, none⟩ = some (.int .i64 8) ∧ w'.cell? ⟨g, n * 3 + 1, none⟩ = some (.string T) ∧ w'.cell? ⟨g, n * 3 + 2, none⟩ = some (.int .i64 aa)) (first | assumption | go_keep) (fail)
 go_wp2
 go_ret
 first | exact ⟨rfl, ((Below.refl _ _).alloc (Nat.le_refl _) _).drew⟩ | exact ⟨by simp, ((Below.refl _ _).alloc (Nat.le_refl _) _).drew⟩
set_option maxHeartbeats 1000000 in
theorem begins_s3 (b g n c : Nat) (kk aa : Int) (T : ByteArray) (w : World) (c3 : w.cell? ⟨b, 3, none⟩ = some (.slice (some ⟨g, 0, none⟩) (n + 1) c)) (hn : n ≤ 100000)
  (d0 : w.cell? ⟨g, n * 3, none⟩ = some (.int .i64 kk)) (d1 : w.cell? ⟨g, n * 3 + 1, none⟩ = some (.string T)) (d2 : w.cell? ⟨g, n * 3 + 2, none⟩ = some (.int .i64 aa)) (hk : kk = 8) (_t0 : (T.toList == [41]) = false) (_t1 : (T.toList == [93]) = false) (_t2 : (T.toList == [43, 43]) = false) (_t3 : (T.toList == [45, 45]) = true) :
  Calls Tryz.prog 29 #[.pointer (some ⟨b, 0, none⟩)] w fun e w' => e = .returned (.bool false) ∧ Below w.heap.size w w' := by
 have e1 : ¬ ((n + 1 : Nat) : Int) = 0 := by omega
 have e2 : IntKind.i64.wrap (n : Int) = (n : Int) := by rw [IntKind.wrap_i64]; omega
 have e3 : (n : Int) < (n : Int) + 1 := by omega
 have e4 : 0 ≤ (n : Int) := by omega
 subst hk
 go_enter Tryz.func29, Tryz.ntmps29
 go_wp2_with fail
 go_region_held3 (fun w' => w'.cell? ⟨b, 3, none⟩ = some (.slice (some ⟨g, 0, none⟩) (n + 1) c) ∧ w'.cell? ⟨g, n * 3, none⟩ = some (.int .i64 8) ∧ w'.cell? ⟨g, n * 3 + 1, none⟩ = some (.string T) ∧ w'.cell? ⟨g, n * 3 + 2, none⟩ = some (.int .i64 aa)) (first | assumption | go_keep) (fail)
 go_wp2
 go_ret
 first | exact ⟨rfl, ((Below.refl _ _).alloc (Nat.le_refl _) _).drew⟩ | exact ⟨by simp, ((Below.refl _ _).alloc (Nat.le_refl _) _).drew⟩
set_option maxHeartbeats 1000000 in
theorem begins_s4 (b g n c : Nat) (kk aa : Int) (T : ByteArray) (w : World) (c3 : w.cell? ⟨b, 3, none⟩ = some (.slice (some ⟨g, 0, none⟩) (n + 1) c)) (hn : n ≤ 100000)
  (d0 : w.cell? ⟨g, n * 3, none⟩ = some (.int .i64 kk)) (d1 : w.cell? ⟨g, n * 3 + 1, none⟩ = some (.string T)) (d2 : w.cell? ⟨g, n * 3 + 2, none⟩ = some (.int .i64 aa)) (hk : kk = 8) (_t0 : (T.toList == [41]) = false) (_t1 : (T.toList == [93]) = false) (_t2 : (T.toList == [43, 43]) = false) (_t3 : (T.toList == [45, 45]) = false) :
  Calls Tryz.prog 29 #[.pointer (some ⟨b, 0, none⟩)] w fun e w' => e = .returned (.bool true) ∧ Below w.heap.size w w' := by
 have e1 : ¬ ((n + 1 : Nat) : Int) = 0 := by omega
 have e2 : IntKind.i64.wrap (n : Int) = (n : Int) := by rw [IntKind.wrap_i64]; omega
 have e3 : (n : Int) < (n : Int) + 1 := by omega
 have e4 : 0 ≤ (n : Int) := by omega
 subst hk
 go_enter Tryz.func29, Tryz.ntmps29
 go_wp2_with fail
 go_region_held3 (fun w' => w'.cell? ⟨b, 3, none⟩ = some (.slice (some ⟨g, 0, none⟩) (n + 1) c) ∧ w'.cell? ⟨g, n * 3, none⟩ = some (.int .i64 8) ∧ w'.cell? ⟨g, n * 3 + 1, none⟩ = some (.string T) ∧ w'.cell? ⟨g, n * 3 + 2, none⟩ = some (.int .i64 aa)) (first | assumption | go_keep) (fail)
 go_wp2
 go_ret
 first | exact ⟨rfl, ((Below.refl _ _).alloc (Nat.le_refl _) _).drew⟩ | exact ⟨by simp, ((Below.refl _ _).alloc (Nat.le_refl _) _).drew⟩
set_option maxHeartbeats 1000000 in
theorem begins_no (b g n c : Nat) (kk aa : Int) (T : ByteArray) (w : World) (c3 : w.cell? ⟨b, 3, none⟩ = some (.slice (some ⟨g, 0, none⟩) (n + 1) c)) (hn : n ≤ 100000)
  (d0 : w.cell? ⟨g, n * 3, none⟩ = some (.int .i64 kk)) (d1 : w.cell? ⟨g, n * 3 + 1, none⟩ = some (.string T)) (d2 : w.cell? ⟨g, n * 3 + 2, none⟩ = some (.int .i64 aa)) (n2 : ¬ kk = 2) (n3 : ¬ kk = 3) (n4 : ¬ kk = 4) (n5 : ¬ kk = 5) (n9 : ¬ kk = 9) (n8 : ¬ kk = 8) :
  Calls Tryz.prog 29 #[.pointer (some ⟨b, 0, none⟩)] w fun e w' => e = .returned (.bool true) ∧ Below w.heap.size w w' := by
 have e1 : ¬ ((n + 1 : Nat) : Int) = 0 := by omega
 have e2 : IntKind.i64.wrap (n : Int) = (n : Int) := by rw [IntKind.wrap_i64]; omega
 have e3 : (n : Int) < (n : Int) + 1 := by omega
 have e4 : 0 ≤ (n : Int) := by omega
 skip
 go_enter Tryz.func29, Tryz.ntmps29
 go_wp2_with fail
 go_region_held3 (fun w' => w'.cell? ⟨b, 3, none⟩ = some (.slice (some ⟨g, 0, none⟩) (n + 1) c) ∧ w'.cell? ⟨g, n * 3, none⟩ = some (.int .i64 kk) ∧ w'.cell? ⟨g, n * 3 + 1, none⟩ = some (.string T) ∧ w'.cell? ⟨g, n * 3 + 2, none⟩ = some (.int .i64 aa)) (first | assumption | go_keep) (fail)
 go_wp2
 go_ret
 first | exact ⟨rfl, ((Below.refl _ _).alloc (Nat.le_refl _) _).drew⟩ | exact ⟨by simp, ((Below.refl _ _).alloc (Nat.le_refl _) _).drew⟩
theorem is_or3 (T : ByteArray) (t l : List UInt8) (h : T.data.toList = t) : ((T.toList == l) = true ∧ t = l) ∨ ((T.toList == l) = false ∧ ¬ t = l) := by subst h; exact is_or2 T l
theorem begins_any (b : Nat) (s : ByteArray) (p : Nat) (bad : Bool) (l : List Tok) (w : World) (h : Rs b w s p bad l) (hl : l.length ≤ 100000) :
  Calls Tryz.prog 29 #[.pointer (some ⟨b, 0, none⟩)] w fun e w' => e = .returned (.bool (rxL l)) ∧ Below w.heap.size w w' := by
 obtain ⟨v, h⟩ := h
 rcases List.eq_nil_or_concat l with rfl | ⟨m, x, rfl⟩
 ·
  obtain ⟨a, c, rfl⟩ := own_form h.row
  exact begins_nil b a c w h.cells.1.2.2.2
 ·
  rw [List.concat_eq_append] at h hl ⊢
  obtain ⟨hb, hr⟩ := h
  have he : (m ++ [x]).length = m.length + 1 := by simp
  rw [he] at hr hl
  obtain ⟨g, c, rfl⟩ := own_succ hr
  obtain ⟨d0, d1, d2⟩ := tok_cells rfl hr
  have c3 := (RC.of hb).1.2.2.2
  rw [rxL_snoc]
  unfold rxA
  have hT : (⟨x.t.toArray⟩ : ByteArray).data.toList = x.t := by simp
  have hn : m.length ≤ 100000 := by omega
  generalize (⟨x.t.toArray⟩ : ByteArray) = T at *
  by_cases k2 : x.k = 2
  ·
   rw [if_pos (.inl k2)]; exact begins_k2 b g _ c _ _ T w c3 hn d0 d1 d2 (by omega)
  by_cases k3 : x.k = 3
  ·
   rw [if_pos (.inr (.inl k3))]; exact begins_k3 b g _ c _ _ T w c3 hn d0 d1 d2 (by omega)
  by_cases k4 : x.k = 4
  ·
   rw [if_pos (.inr (.inr (.inl k4)))]; exact begins_k4 b g _ c _ _ T w c3 hn d0 d1 d2 (by omega)
  by_cases k5 : x.k = 5
  ·
   rw [if_pos (.inr (.inr (.inr k5)))]; exact begins_k5 b g _ c _ _ T w c3 hn d0 d1 d2 (by omega)
  rw [if_neg (by rintro (h | h | h | h) <;> contradiction)]
  by_cases k9 : x.k = 9
  ·
   rw [if_pos k9]
   rcases is_or3 T x.t [108, 101, 110, 103, 116, 104] hT with ⟨h, e⟩ | ⟨h, e⟩
   ·
    rw [decide_eq_false (by simpa using e)]; exact begins_b1 b g _ c _ _ T w c3 hn d0 d1 d2 (by omega) h
   ·
    rw [decide_eq_true e]; exact begins_b0 b g _ c _ _ T w c3 hn d0 d1 d2 (by omega) h
  rw [if_neg k9]
  by_cases k8 : x.k = 8
  ·
   rw [if_pos k8]
   rcases is_or3 T x.t [41] hT with ⟨h1, e1⟩ | ⟨h1, e1⟩
   ·
    rw [decide_eq_false (by simpa using e1)]; exact begins_s0 b g _ c _ _ T w c3 hn d0 d1 d2 (by omega) h1
   rcases is_or3 T x.t [93] hT with ⟨h2, e2⟩ | ⟨h2, e2⟩
   ·
    rw [decide_eq_false (p := x.t ≠ [93]) (by simpa using e2)]; simp only [Bool.and_false, Bool.false_and]; exact begins_s1 b g _ c _ _ T w c3 hn d0 d1 d2 (by omega) h1 h2
   rcases is_or3 T x.t [43, 43] hT with ⟨h3, e3⟩ | ⟨h3, e3⟩
   ·
    rw [decide_eq_false (p := x.t ≠ [43, 43]) (by simpa using e3)]; simp only [Bool.and_false, Bool.false_and]; exact begins_s2 b g _ c _ _ T w c3 hn d0 d1 d2 (by omega) h1 h2 h3
   rcases is_or3 T x.t [45, 45] hT with ⟨h4, e4⟩ | ⟨h4, e4⟩
   ·
    rw [decide_eq_false (p := x.t ≠ [45, 45]) (by simpa using e4)]; simp only [Bool.and_false]; exact begins_s3 b g _ c _ _ T w c3 hn d0 d1 d2 (by omega) h1 h2 h3 h4
   rw [decide_eq_true e1, decide_eq_true e2, decide_eq_true e3, decide_eq_true e4]
   exact begins_s4 b g _ c _ _ T w c3 hn d0 d1 d2 (by omega) h1 h2 h3 h4
  rw [if_neg k8]
  exact begins_no b g _ c _ _ T w c3 hn d0 d1 d2 (by omega) (by omega) (by omega) (by omega) (by omega) (by omega)
end Go.Proofs.YtmbfdkiejneheaaGreatDoor
