/-
  THE BUILDER of layer 10 in memory; a piece as a value.
-/
import Derived.Test.YtjjejcgpeefclaaDoorMtW3
namespace Go.Proofs.YtjjejcgpeefclaaDoor
open Go.RowKit

/-- Of what lay in memory only blocks of the kind C have turned. -/
structure Chg (C : Nat → Prop) (w w' : World) : Prop where
  os : w'.os = w.os
  tape : w'.tape = w.tape
  output : w'.output = w.output
  size : w.heap.size ≤ w'.heap.size
  block : ∀ k, k < w.heap.size → ¬ C k → w'.heap[k]? = w.heap[k]?
section
variable {C : Nat → Prop} {u v w w' : World}
theorem Chg.refl (C : Nat → Prop) (w : World) : Chg C w w := ⟨rfl, rfl, rfl, Nat.le_refl _, fun _ _ _ => rfl⟩
theorem Chg.trans {C' : Nat → Prop} (h : Chg C u v) (k : Chg C' v w) (hC : ∀ j, j < u.heap.size → C' j → C j) : Chg C u w :=
  ⟨k.os.trans h.os, k.tape.trans h.tape, k.output.trans h.output, Nat.le_trans h.size k.size, fun i hi hn => (k.block i (Nat.lt_of_lt_of_le hi h.size) (fun hc => hn (hC i hi hc))).trans (h.block i hi hn)⟩
theorem Chg.then (h : Chg C u v) (k : Chg C v w) : Chg C u w := h.trans k fun _ _ h => h
theorem Chg.of_below {B : Nat} (h : Below B w w') (hB : w.heap.size ≤ B) : Chg C w w' := ⟨h.os, h.tape, h.output, h.size, fun k hk _ => h.block k (Nat.lt_of_lt_of_le hk hB)⟩
theorem Chg.of_onl {b : Nat} (h : Onl b w w') (hb : b < w.heap.size → C b) : Chg C w w' := ⟨h.os, h.tape, h.output, h.size, fun k hk hn => h.block k hk (fun e => hn (e ▸ hb (e ▸ hk)))⟩
theorem Chg.below {n : Nat} (h : Chg C w w') (hn : n ≤ w.heap.size) (hC : ∀ k, C k → n ≤ k) : Below n w w' := ⟨h.os, h.tape, h.output, h.size, fun k hk => h.block k (Nat.lt_of_lt_of_le hk hn) (fun hc => by have := hC k hc; omega)⟩
theorem Chg.mono {C' : Nat → Prop} (h : Chg C w w') (hC : ∀ k, k < w.heap.size → C k → C' k) : Chg C' w w' := ⟨h.os, h.tape, h.output, h.size, fun k hk hn => h.block k hk (fun hc => hn (hC k hk hc))⟩
theorem Chg.set (h : Chg C u w) {p : Addr} (hp : p.block < u.heap.size → C p.block) (v : Value) : Chg C u (w.setCell p v) :=
  ⟨h.os, h.tape, h.output, by rw [World.size_setCell]; exact h.size, fun k hk hn => (Below.heap_setCell w p v k (fun e => hn (e ▸ hp (e ▸ hk)))).trans (h.block k hk hn)⟩
theorem Chg.put {k : Nat} (h : Chg C u w) (hk : u.heap.size ≤ k) (o : Obj) : Chg C u (w.putObj k o) :=
  ⟨h.os, h.tape, h.output, by rw [World.putObj_size]; exact h.size, fun j hj hn => (World.putObj_heap_other (by omega)).trans (h.block j hj hn)⟩
theorem Tb.chg {g R m : Nat} {P : Nat → Nat → Prop} (h : Tb w g R m P) (hc : Chg C w w') (hg : ¬ C g) : Tb w' g R m P := h.kept (hc.block g h.lt hg)
end
/-- No panic. -/
def NoP (Q : Exit → Act → World → Prop) (e : Exit) (a : Act) (w : World) : Prop := (∀ c, e ≠ .panic c) ∧ Q e a w
/-- A piece, as a value: where it is met by nothing, its tables' blocks. -/
def pcV (m : Nat) (E : Nat → Bool) (gf gl : Nat) : Value := .agg #[.bool (E 0), .bool (E 1), .bool (E 2), .bool (E 3), .int .i64 (m : Int), .slice (some ⟨gf, 0, none⟩) (4 * m) (4 * m), .int .i64 (m : Int), .slice (some ⟨gl, 0, none⟩) (4 * m) (4 * m)]
/-- The program that is built, and its builder: L leaves in all, m words; which blocks. -/
structure Bd where
  b : Nat
  p : Nat
  t : Nat
  a : Nat
  h : Nat
  m : Nat
  L : Nat
def Bd.prog (d : Bd) : Array Value := #[.int .i64 (d.m : Int), .int .i64 (d.m : Int), .slice (some ⟨d.t, 0, none⟩) (256 * d.m) (256 * d.m), .int .i64 (d.m : Int), .slice (some ⟨d.a, 0, none⟩) (d.L * d.m) (d.L * d.m), .int .i64 (d.m : Int), .slice (some ⟨d.h, 0, none⟩) (d.L * d.m) (d.L * d.m),
  .bool false, .bool false, .bool false, .bool false, .int .i64 0, .slice none 0 0, .int .i64 0, .slice none 0 0]
/-- The builder as it stands: the next leaf, the leaves that take a byte, which may stand behind which. -/
structure Bl (w : World) (d : Bd) (n : Nat) (T B : Nat → Nat → Prop) : Prop where
  blk : w.heap[d.b]? = some (.cells #[.pointer (some ⟨d.p, 0, none⟩), .int .i64 (n : Int)] 86 (0, 0))
  prog : w.heap[d.p]? = some (.cells d.prog 88 (0, 0))
  tk : Tb w d.t 256 d.m T
  ah : Tb w d.a d.L d.m (fun r x => B x r)
  bh : Tb w d.h d.L d.m B
  dz : Dz w
structure Bd.ok (d : Bd) : Prop where
  bp : d.b ≠ d.p
  bt : d.b ≠ d.t
  ba : d.b ≠ d.a
  bh : d.b ≠ d.h
  pt : d.p ≠ d.t
  pa : d.p ≠ d.a
  ph : d.p ≠ d.h
  ta : d.t ≠ d.a
  th : d.t ≠ d.h
  ah : d.a ≠ d.h
  m : d.m ≤ 100
  L : d.L ≤ 64 * d.m
def Bd.own (d : Bd) (k : Nat) : Prop := k = d.b ∨ k = d.t ∨ k = d.a ∨ k = d.h
section
variable {w w' : World} {d : Bd} {n : Nat} {T B : Nat → Nat → Prop}
theorem Bl.kept (h : Bl w d n T B) (hk : ∀ k, k = d.b ∨ k = d.p ∨ k = d.t ∨ k = d.a ∨ k = d.h ∨ k = (0 : Nat) → k < w.heap.size → w'.heap[k]? = w.heap[k]?) : Bl w' d n T B :=
  ⟨(hk _ (.inl rfl) (Array.getElem?_eq_some_iff.1 h.blk).1).trans h.blk, (hk _ (.inr (.inl rfl)) (Array.getElem?_eq_some_iff.1 h.prog).1).trans h.prog, h.tk.kept (hk _ (.inr (.inr (.inl rfl))) h.tk.lt),
    h.ah.kept (hk _ (.inr (.inr (.inr (.inl rfl)))) h.ah.lt), h.bh.kept (hk _ (.inr (.inr (.inr (.inr (.inl rfl))))) h.bh.lt), h.dz.kept (hk _ (.inr (.inr (.inr (.inr (.inr rfl))))) h.dz.lt)⟩
theorem Bl.next (h : Bl w d n T B) (hb : Below w.heap.size w w') : Bl w' d n T B := h.kept fun k _ hl => hb.block k hl
theorem Bl.lt (h : Bl w d n T B) : d.b < w.heap.size ∧ d.p < w.heap.size ∧ d.t < w.heap.size ∧ d.a < w.heap.size ∧ d.h < w.heap.size := ⟨(Array.getElem?_eq_some_iff.1 h.blk).1, (Array.getElem?_eq_some_iff.1 h.prog).1, h.tk.lt, h.ah.lt, h.bh.lt⟩
theorem Bl.congr {T' B' : Nat → Nat → Prop} (h : Bl w d n T B) (hT : ∀ i x, i < 256 → x < 64 * d.m → (T i x ↔ T' i x)) (hB : ∀ i x, i < 64 * d.m → x < 64 * d.m → (B i x ↔ B' i x)) (hL : d.L ≤ 64 * d.m) : Bl w d n T' B' :=
  ⟨h.blk, h.prog, h.tk.congr hT, h.ah.congr (fun i x hi hx => hB x i hx (by omega)), h.bh.congr (fun i x hi hx => hB i x (by omega) hx), h.dz⟩
end
end Go.Proofs.YtjjejcgpeefclaaDoor
