/-
 CONTRACT of layer 9's part: things and the signs behind them.
-/
import Derived.Test.YtmbfdkiejneheaaGreatDoorLxM
import Derived.Test.YtmbfdkiejneheaaGreatDoorRgG
import Derived.WalkMore
import Derived.ScopeJumps
import Derived.Deep.RegionHeld3
namespace Go.Proofs.YtmbfdkiejneheaaGreatDoor
open Go.RowKit

theorem Tryz.infoNode : (Tryz.prog.info? 100).map (fun i => (i.zero, i.size, i.bytes)) = some (some (.agg #[.int .i64 0, .int .u64 0, .int .u64 0, .int .u64 0, .int .u64 0, .slice none 0 0]), 6, 64) := by kernel_rfl
/-- Trees in rows of blocks that are no row of the list's own. -/
def Free (n0 : Nat) (v : Value) (g : Nat) : Prop := n0 ≤ g ∧ v.ownBlock ≠ some g
/-- Where the loop of a part stands: the things so far; more is to come, or an error is told. -/
structure PartSt (s : ByteArray) (b op n0 : Nat) (G : List UInt8 → PR RT) (X : PR (List RT)) (gk : Nat) (v : Value) (nds : List Nd) (w0 w : World) : Prop where
 own : w.ownsRow n0 100 6 v nds.length (ndRow nds)
 len : nds.length + gk ≤ s.size + 1
 res : BlkN w w0.heap.size Nd.zero
 onl : Onl b w0 w
 st : (∃ (f : Nat) (l : List UInt8) (ts : List RT), l <:+ s.data.toList ∧ l.length < f ∧ l.length ≤ gk ∧ partLoop withW notW orW G f l ts = X ∧ Rg w b s (s.size - l.length) op 0 0 ∧ TreesN w (Free n0 v) ts nds) ∨
  (∃ bd er, X = .error (bd, er) ∧ (er = 9 ∨ er = 14) ∧ bd ≤ s.size ∧ Rg w b s s.size op (s.size - bd) er)
/-- The whole of a part out of its loop. -/
def partF (k : Nat) (X : PR (List RT)) : PR RT := match X with
 | .error x => .error x
 | .ok (ts, r) => .ok (gatherR k ts, r)
theorem partR_eq (G : List UInt8 → PR RT) (l : List UInt8) : partR withW notW orW G l = partF 2 (partLoop withW notW orW G (l.length + 1) l []) := by
 unfold partR partF
 cases partLoop withW notW orW G (l.length + 1) l [] with
 | error x => rfl
 | ok x => obtain ⟨t, r⟩ := x; rfl
theorem gather_tree {w : World} {B : Nat → Prop} {k : Nat} {p : Option Addr} {c : Nat} : ∀ {ts : List RT} {nds : List Nd}, w.ownsRow 0 100 6 (.slice p nds.length c) nds.length (ndRow nds) → (∀ g, (Value.slice p nds.length c).ownBlock = some g → B g) → TreesN w B ts nds → TreeN w B (gatherR k ts) (gatherN k p nds.length c nds)
 | [], nds, _, _, h3 => by
  unfold TreesN at h3; subst h3
  exact TreeN.leaf w B 0 W4.zero
 | [t], nds, _, _, h3 => by
  unfold TreesN at h3
  obtain ⟨nd, rest, h4, h5, h6⟩ := h3
  unfold TreesN at h6
  subst h6; subst h4
  exact h5
 | t :: u :: ts, nds, h1, h2, h3 => by
  have hl := h3.len
  obtain ⟨x, y, l, rfl⟩ : ∃ x y l, nds = x :: y :: l := by
   rcases nds with _ | ⟨x, _ | ⟨y, l⟩⟩
   ·
    simp at hl
   ·
    simp at hl
   ·
    exact ⟨x, y, l, rfl⟩
  show TreeN w B (.mk k W4.zero (t :: u :: ts)) ⟨k, W4.zero, p, (x :: y :: l).length, c⟩
  unfold TreeN
  exact ⟨rfl, rfl, x :: y :: l, by rw [← hl]; exact h1, h2, h3⟩
theorem grown_at {w w' : World} {row : Option Nat} (h : w.grownBy w' row) {k : Nat} (hk : k < w.heap.size) (hne : row ≠ some k) : w'.heap[k]? = w.heap[k]? := h.block k hk (fun e => hne e.symm)
/-- Behind a thing that was appended. -/
theorem part_app {w0 wr w8 w9 : World} {b n0 : Nat} {v v' : Value} {n : Nat} {nds : List Nd} {nd : Nd} {lit : Obj} (hown : wr.ownsRow n0 100 6 v n (ndRow nds)) (hres : BlkN wr w0.heap.size Nd.zero) (honl : Onl b w0 wr) (o8 : Onl b wr w8) (hb : b < w0.heap.size) (hn0 : n0 = w0.heap.size + 1)
  (hg : (w8.alloc lit).grownBy w9 v.ownBlock) (hat : v'.ownBlock = v.ownBlock ∨ v'.ownBlock = some (w8.heap.size + 1)) :
  BlkN w9 w0.heap.size Nd.zero ∧ Onl b w0 w9 ∧ (∀ s p op bad er, Rg w8 b s p op bad er → Rg w9 b s p op bad er) ∧
  (∀ ts t, TreesN wr (Free n0 v) ts nds → TreeN w8 (fun k => wr.heap.size ≤ k) t nd → TreesN w9 (Free n0 v') (ts ++ [t]) (nds ++ [nd])) := by
 have hsz : wr.heap.size ≤ w8.heap.size := o8.size
 have hr := hres.lt
 have hob := rg_own_base hown
 have hal : (w8.alloc lit).heap.size = w8.heap.size + 1 := by simp
 have hgs := hg.size
 have hne : ∀ k, k < n0 → v.ownBlock ≠ some k := fun k hk e => by have := (hob k e).1; omega
 have h89 : ∀ k, k < w8.heap.size → v.ownBlock ≠ some k → w9.heap[k]? = w8.heap[k]? := fun k hk h => (grown_at hg (by omega) h).trans (Below.heap_alloc w8 lit k hk)
 have hv' : ∀ k, k < w8.heap.size → v.ownBlock ≠ some k → v'.ownBlock ≠ some k := fun k hk h e => by
  rcases hat with h2 | h2
  ·
   exact h (h2 ▸ e)
  ·
   rw [h2] at e
   have := Option.some.inj e
   omega
 refine ⟨(h89 _ (by omega) (hne _ (by omega))).trans ((o8.block _ hr (by omega)).trans hres), ?_, fun s p op bad er h => (h89 b h.lt (hne b (by omega))).trans h, fun ts t h1 h2 => ?_⟩
 ·
  have h08 := honl.trans o8
  exact ⟨hg.os.trans h08.os, hg.tape.trans h08.tape, hg.output.trans h08.output, by have := h08.size; omega, fun k hk hkb => (h89 k (by have := h08.size; omega) (hne k (by omega))).trans (h08.block k hk hkb)⟩
 ·
  refine TreesN.snoc (h2.kept (fun k hk hl => h89 k hl (fun e => ?_)) (fun k hk hl => ⟨by omega, hv' k hl (fun e => ?_)⟩)) (TreesN.kept (fun k hk hl => (h89 k (by omega) hk.2).trans (o8.block k hl (by have := hk.1; omega))) (fun k hk hl => ⟨hk.1, hv' k (by omega) hk.2⟩) ts nds h1)
  ·
   have := (hob k e).2; omega
  ·
   have := (hob k e).2; omega
/-- Six stores of a node into a row. -/
def putK (w : World) (g k : Nat) (n : Nd) : World := (((((w.setCell ⟨g, k, none⟩ (.int .i64 n.op)).setCell ⟨g, k + 1, none⟩ (.int .u64 n.set.a)).setCell ⟨g, k + 2, none⟩ (.int .u64 n.set.b)).setCell ⟨g, k + 3, none⟩ (.int .u64 n.set.c)).setCell ⟨g, k + 4, none⟩ (.int .u64 n.set.d)).setCell ⟨g, k + 5, none⟩ (.slice n.kp n.kn n.kc)
theorem putK_block {w : World} {g i k : Nat} (hk : k ≠ g) (n : Nd) : (putK w g i n).heap[k]? = w.heap[k]? := by
 unfold putK
 rw [Below.heap_setCell _ _ _ k hk, Below.heap_setCell _ _ _ k hk, Below.heap_setCell _ _ _ k hk, Below.heap_setCell _ _ _ k hk, Below.heap_setCell _ _ _ k hk, Below.heap_setCell _ _ _ k hk]
theorem putK_size (w : World) (g i : Nat) (n : Nd) : (putK w g i n).heap.size = w.heap.size := by
 unfold putK; simp only [World.size_setCell]
theorem row_set6 (A : List Value) (k : Nat) (hA : A.length = k) (l n : Nd) : ((((((A ++ l.vals).set k (.int .i64 n.op)).set (k + 1) (.int .u64 n.set.a)).set (k + 2) (.int .u64 n.set.b)).set (k + 3) (.int .u64 n.set.c)).set (k + 4) (.int .u64 n.set.d)).set (k + 5) (.slice n.kp n.kn n.kc) = A ++ n.vals := by
 subst hA
 rw [List.set_append_right _ _ (by omega), List.set_append_right _ _ (by omega), List.set_append_right _ _ (by omega), List.set_append_right _ _ (by omega), List.set_append_right _ _ (by omega), List.set_append_right _ _ (by omega)]
 congr 1
 simp [Nd.vals]
theorem putK_row {w : World} {base g c m : Nat} {A : List Nd} {l : Nd} (n : Nd) (h : w.ownsRow base 100 6 (.slice (some ⟨g, 0, none⟩) m c) m (ndRow (A ++ [l]))) :
  (putK w g (A.length * 6) n).ownsRow base 100 6 (.slice (some ⟨g, 0, none⟩) m c) m (ndRow (A ++ [n])) := by
 have e : ∀ x : Nd, ndRow (A ++ [x]) = ndRow A ++ x.vals := fun x => by rw [ndRow_append]; simp [ndRow]
 rw [e] at h ⊢
 have h2 := ((((((h.stored (A.length * 6) (.int .i64 n.op)).1.stored (A.length * 6 + 1) (.int .u64 n.set.a)).1.stored (A.length * 6 + 2) (.int .u64 n.set.b)).1.stored (A.length * 6 + 3) (.int .u64 n.set.c)).1.stored (A.length * 6 + 4) (.int .u64 n.set.d)).1.stored (A.length * 6 + 5) (.slice n.kp n.kn n.kc)).1
 rw [row_set6 (ndRow A) (A.length * 6) (ndRow_len A) l n] at h2
 exact h2
/-- Behind a sign that was put on the last thing. -/
theorem part_sgn {w0 wr : World} {b n0 g c m : Nat} {A : List Nd} {l : Nd} (op : Nat) (hown : wr.ownsRow n0 100 6 (.slice (some ⟨g, 0, none⟩) m c) m (ndRow (A ++ [l]))) (hres : BlkN wr w0.heap.size Nd.zero) (honl : Onl b w0 wr) (hb : b < w0.heap.size) (hn0 : n0 = w0.heap.size + 1) :
  ∀ W, W = ((putK wr g (A.length * 6) ⟨op, W4.zero, some ⟨wr.heap.size, 0, none⟩, 1, 1⟩).alloc (.cells #[.int .i64 l.op, .int .u64 l.set.a, .int .u64 l.set.b, .int .u64 l.set.c, .int .u64 l.set.d, .slice l.kp l.kn l.kc] 100)).drew →
  W.ownsRow n0 100 6 (.slice (some ⟨g, 0, none⟩) m c) m (ndRow (A ++ [⟨op, W4.zero, some ⟨wr.heap.size, 0, none⟩, 1, 1⟩])) ∧ BlkN W w0.heap.size Nd.zero ∧ Onl b w0 W ∧ (∀ s p op bad er, Rg wr b s p op bad er → Rg W b s p op bad er) ∧
  (∀ ts t, TreesN wr (Free n0 (.slice (some ⟨g, 0, none⟩) m c)) (ts ++ [t]) (A ++ [l]) → TreesN W (Free n0 (.slice (some ⟨g, 0, none⟩) m c)) (ts ++ [.mk op W4.zero [t]]) (A ++ [⟨op, W4.zero, some ⟨wr.heap.size, 0, none⟩, 1, 1⟩])) := by
 intro W hW
 have hgb := rg_own_base hown g rfl
 obtain ⟨P, hP⟩ : ∃ P, putK wr g (A.length * 6) ⟨op, W4.zero, some ⟨wr.heap.size, 0, none⟩, 1, 1⟩ = P := ⟨_, rfl⟩
 have hPs : P.heap.size = wr.heap.size := by rw [← hP, putK_size]
 have hPb : ∀ k, k ≠ g → P.heap[k]? = wr.heap[k]? := fun k hne => by rw [← hP]; exact putK_block hne _
 have hProw : P.ownsRow n0 100 6 (.slice (some ⟨g, 0, none⟩) m c) m (ndRow (A ++ [⟨op, W4.zero, some ⟨wr.heap.size, 0, none⟩, 1, 1⟩])) := by rw [← hP]; exact putK_row _ hown
 have hO : Onl g wr P := by
  rw [← hP]; unfold putK
  exact ((((((Onl.refl g wr).setCell _ _).setCell _ _).setCell _ _).setCell _ _).setCell _ _).setCell _ _
 rw [hP] at hW
 clear hP
 have hbk : ∀ k, k < wr.heap.size → k ≠ g → W.heap[k]? = wr.heap[k]? := fun k hk hne => by
  rw [hW]; exact (Below.heap_alloc P (.cells #[.int .i64 l.op, .int .u64 l.set.a, .int .u64 l.set.b, .int .u64 l.set.c, .int .u64 l.set.d, .slice l.kp l.kn l.kc] 100) k (by omega)).trans (hPb k hne)
 have hrow : W.ownsRow n0 100 6 (.slice (some ⟨g, 0, none⟩) m c) m (ndRow (A ++ [⟨op, W4.zero, some ⟨wr.heap.size, 0, none⟩, 1, 1⟩])) := by rw [hW]; exact World.ownsRow.drew (hProw.alloc _)
 have hlit := World.ownsRow_lit (base := 0) (e := 100) (size := 6) P #[.int .i64 l.op, .int .u64 l.set.a, .int .u64 l.set.b, .int .u64 l.set.c, .int .u64 l.set.d, .slice l.kp l.kn l.kc] 1 (Nat.zero_le _) (by decide) rfl
 rw [hPs] at hlit
 have hlit2 : W.ownsRow 0 100 6 (.slice (some ⟨wr.heap.size, 0, none⟩) 1 1) 1 (ndRow [l]) := by
  rw [hW]; exact World.ownsRow.drew hlit
 have hO : Onl g wr W := by rw [hW]; exact (hO.alloc _).drew
 clear hW hlit
 have hr := hres.lt
 refine ⟨hrow, (hbk _ hr (by omega)).trans hres, ?_, fun s p op bad er h => (hbk b h.lt (by omega)).trans h, fun ts t h => ?_⟩
 ·
  refine ⟨?_, ?_, ?_, ?_, fun k hk hkb => (hbk k (by have := honl.size; omega) (by omega)).trans (honl.block k hk hkb)⟩
  ·
   exact hO.os.trans honl.os
  ·
   exact hO.tape.trans honl.tape
  ·
   exact hO.output.trans honl.output
  ·
   exact Nat.le_trans honl.size hO.size
 ·
  have hkept : ∀ k, Free n0 (.slice (some ⟨g, 0, none⟩) m c) k → k < wr.heap.size → W.heap[k]? = wr.heap[k]? := fun k hk hl => hbk k hl (fun e => hk.2 (by rw [e]; rfl))
  obtain ⟨nd, rest, e1, h1, h2⟩ := h.unsnoc
  obtain ⟨rfl, rfl⟩ : A = rest ∧ l = nd := by
   have := List.append_inj' e1 rfl
   exact ⟨this.1, by simpa using this.2⟩
  refine TreesN.snoc ?_ (TreesN.kept hkept (fun _ h _ => h) ts A h2)
  unfold TreeN
  refine ⟨rfl, rfl, [l], ?_, ?_, ?_⟩
  ·
   exact hlit2
  ·
   intro k hk
   have : wr.heap.size = k := by simpa [Nd.kids, Value.ownBlock] using hk
   exact ⟨by omega, fun e => by have : g = k := (by simpa [Value.ownBlock] using e); omega⟩
  ·
   unfold TreesN
   exact ⟨l, [], rfl, TreeN.kept hkept (fun _ h _ => h) t l h1, by unfold TreesN; rfl⟩
theorem last_cells {w : World} {n0 g c k : Nat} {A : List Nd} {l : Nd} (hk : A.length = k) (h : w.ownsRow n0 100 6 (.slice (some ⟨g, 0, none⟩) (k + 1) c) (k + 1) (ndRow (A ++ [l]))) :
  (w.cell? ⟨g, k * 6, none⟩ = some (.int .i64 l.op) ∧ w.cell? ⟨g, k * 6 + 1, none⟩ = some (.int .u64 l.set.a) ∧ w.cell? ⟨g, k * 6 + 2, none⟩ = some (.int .u64 l.set.b) ∧ w.cell? ⟨g, k * 6 + 3, none⟩ = some (.int .u64 l.set.c) ∧ w.cell? ⟨g, k * 6 + 4, none⟩ = some (.int .u64 l.set.d) ∧ w.cell? ⟨g, k * 6 + 5, none⟩ = some (.slice l.kp l.kn l.kc)) ∧
  (w.frozen? ⟨g, k * 6, none⟩ = false ∧ w.frozen? ⟨g, k * 6 + 1, none⟩ = false ∧ w.frozen? ⟨g, k * 6 + 2, none⟩ = false ∧ w.frozen? ⟨g, k * 6 + 3, none⟩ = false ∧ w.frozen? ⟨g, k * 6 + 4, none⟩ = false ∧ w.frozen? ⟨g, k * 6 + 5, none⟩ = false) := by
 have hl : k < (A ++ [l]).length := by rw [List.length_append]; simp; omega
 have he : (A ++ [l])[k] = l := by subst hk; simp
 have q : ∀ j, j < 6 → w.cell? ⟨g, k * 6 + j, none⟩ = l.vals[j]? := fun j hj => by
  rw [h.cellAt (k * 6 + j) (by omega), ndRow_get _ k j hl hj, he]
 exact ⟨⟨q 0 (by omega), q 1 (by omega), q 2 (by omega), q 3 (by omega), q 4 (by omega), q 5 (by omega)⟩, h.frozenAt _, h.frozenAt _, h.frozenAt _, h.frozenAt _, h.frozenAt _, h.frozenAt _⟩
theorem nd_new (w : World) (n : Nd) : ∀ (j : Nat) (u : Value), n.vals[j]? = some u → (w.alloc (.cells #[.int .i64 n.op, .int .u64 n.set.a, .int .u64 n.set.b, .int .u64 n.set.c, .int .u64 n.set.d, .slice n.kp n.kn n.kc] 100)).cell? (Addr.add ⟨w.heap.size, 0, none⟩ j) = some u := by
 intro j u hj
 match j, hj with
 | 0, hj => simp [Nd.vals] at hj; subst hj; simp [Addr.add, go_sem]
 | 1, hj => simp [Nd.vals] at hj; subst hj; simp [Addr.add, go_sem]
 | 2, hj => simp [Nd.vals] at hj; subst hj; simp [Addr.add, go_sem]
 | 3, hj => simp [Nd.vals] at hj; subst hj; simp [Addr.add, go_sem]
 | 4, hj => simp [Nd.vals] at hj; subst hj; simp [Addr.add, go_sem]
 | 5, hj => simp [Nd.vals] at hj; subst hj; simp [Addr.add, go_sem]
 | n + 6, hj => simp [Nd.vals] at hj
theorem rg_setLoop_len {n : Nat} : ∀ (f : Nat) (l : List UInt8) (s t : W4) (r : List UInt8), setLoop withW orW n f l s = .ok (t, r) → r.length ≤ l.length
 | 0, l, s, t, r, h => by cases h
 | f + 1, l, s, t, r, h => by
  unfold setLoop at h
  rcases l with _ | ⟨c, l⟩
  ·
   cases h
  ·
   simp only at h
   split at h
   ·
    cases h; simp
   ·
    split at h
    ·
     cases h
    ·
     rename_i t2 r2 hx
     have h1 := rg_spanR_len hx
     have h2 := rg_setLoop_len f r2 _ _ _ h
     simp only [List.length_cons]; omega
theorem rg_setR_len {l r : List UInt8} {t : RT} (h : setR withW notW orW l = .ok (t, r)) : r.length ≤ l.length := by
 rw [setR_eq] at h
 unfold setF setX at h
 have hd : (if l.head? = some 94 then l.drop 1 else l).length ≤ l.length := by split <;> simp
 generalize (if l.head? = some 94 then l.drop 1 else l) = l1 at *
 split at h
 ·
  cases h
 ·
  rename_i t2 r2 hx
  cases h
  split at hx
  ·
   cases hx
  ·
   rename_i t3 r3 hy
   have h2 := rg_setLoop_len _ _ _ _ _ hx
   rcases l1 with _ | ⟨c, l1⟩
   ·
    cases hy; simpa using Nat.le_trans h2 (Nat.zero_le _)
   ·
    have h1 := rg_spanR_len hy
    simp only [List.length_cons] at hd; omega
theorem rg_thingR_len {G : List UInt8 → PR RT} {x : UInt8} {r r2 : List UInt8} {t : RT} (h : thingR withW notW orW G (x :: r) = .ok (t, r2)) (hG : ∀ l t r, G l = .ok (t, r) → r.length ≤ l.length) : r2.length ≤ r.length := by
 simp only [thingR] at h
 split at h
 ·
  exact hG _ _ _ h
 ·
  split at h
  ·
   exact rg_setR_len h
  ·
   split at h
   ·
    cases h; omega
   ·
    split at h
    ·
     cases h; omega
    ·
     split at h
     ·
      cases h; omega
     ·
      split at h
      ·
       cases h
      ·
       rename_i hx
       cases h
       have := rg_nextR_len hx
       simp only [List.length_cons] at this; omega
set_option maxHeartbeats 8000000 in
set_option maxRecDepth 100000 in
theorem rpart_any (b : Nat) (s : ByteArray) (op : Nat) (G : List UInt8 → PR RT) (l : List UInt8) (w : World) (h : Rg w b s (s.size - l.length) op 0 0) (hl : l <:+ s.data.toList) (hs : s.size ≤ 10000) (hG : GrpOk b s op G) (hGL : ∀ l t r, G l = .ok (t, r) → r.length ≤ l.length) :
  Calls Tryz.prog 133 #[.pointer (some ⟨b, 0, none⟩)] w (RdP (VN w.heap.size) GN b s op (partR withW notW orW G l) w) := by
 have HB : Hid (b ≠ w.heap.size) := kH (by have := h.lt; omega)
 have HB2 : Hid (b < w.heap.size) := kH h.lt
 have GA := kH fun p c nds W h1 h2 => rgather_any 2 p c nds W h1 h2
 have DY := kH fun W bad er H => rdone_yes b s op bad er W H
 have HGG := kH hG
 have HGL := kH hGL
 obtain ⟨X, hX⟩ : ∃ X, partLoop withW notW orW G (l.length + 1) l [] = X := ⟨_, rfl⟩
 rw [partR_eq, hX]
 have H0 : PartSt s b op (w.heap.size + 1) G X s.size (.slice none 0 0) [] w (w.alloc (.cells #[.int .i64 0, .int .u64 0, .int .u64 0, .int .u64 0, .int .u64 0, .slice none 0 0] 100)) :=
  ⟨World.ownsRow_nil _ _ _ _, by simp, BlkN.new w, (Onl.refl b w).alloc _, .inl ⟨l.length + 1, l, [], hl, by omega, rg_len hl, hX, h.alloc _, by unfold TreesN; rfl⟩⟩
 have H0 := kH H0
 obtain ⟨i0, hi, hz0, hz1, hz2⟩ := info_parts Tryz.infoNode
 clear h hl hX hG hGL
 go_enter Tryz.func133, Tryz.ntmps133
 go_wp2_with fail
 generalize w.alloc (.cells #[.int .i64 0, .int .u64 0, .int .u64 0, .int .u64 0, .int .u64 0, .slice none 0 0] 100) = wa at *
 go_step3
 go_wp2_with fail
 go_step3
 go_wp2_with fail
 go_loopg [3] s.size (fun gk v3 wr => ∃ (p : Option Addr) (c : Nat) (nds : List Nd), v3 = .slice p nds.length c ∧ Hid (PartSt s b op (w.heap.size + 1) G X gk (.slice p nds.length c) nds w wr))
 case atStart => exact ⟨none, 0, [], rfl, H0⟩
 case round =>
  clear H0
  obtain ⟨p, c, nds, rfl, HS⟩ := hrel
  rcases HS.out.st with ⟨f, l2, ts, hl2, hf, hgk, hXl, hR, hts⟩ | ⟨bd, er, hXe, her, hbd, hR⟩
  ·
   obtain ⟨f', rfl⟩ : ∃ f', f = f' + 1 := ⟨f - 1, by omega⟩
   rcases l2 with _ | ⟨x, r⟩
   ·
    have HXE : Hid (X = .ok (ts, [])) := kH (by rw [← hXl]; rfl)
    have HSF : Hid (([] : List UInt8) <:+ s.data.toList ∧ s.size - ([] : List UInt8).length = s.size) := kH ⟨List.nil_suffix, rfl⟩
    have HR : Hid (Rg wr b s s.size op 0 0) := kH hR
    have HTW := kH hts
    clear hl2 hf hgk hXl hR hts
    go_wp2_with fail
    refine (DY.out _ _ _ HR.out).mono ?_
    rintro e w7 ⟨rfl, m7, rfl⟩
    have hts := HTW.out
    have HOWN : Hid ((wr.drewN m7).ownsRow 0 100 6 (.slice p nds.length c) nds.length (ndRow nds)) := kH (rg_own_less HS.out.own (Nat.zero_le _))
    have HRES : Hid (BlkN (wr.drewN m7) w.heap.size Nd.zero) := kH HS.out.res
    have HONL : Hid (Onl b w (wr.drewN m7)) := kH HS.out.onl.drewN
    have HLN : Hid (nds.length ≤ 100000) := kH (by have := HS.out.len; omega)
    have HOB : Hid (∀ g, (Value.slice p nds.length c).ownBlock = some g → w.heap.size + 1 ≤ g) := kH (fun g hg => (rg_own_base HS.out.own g hg).1)
    have HTS : Hid (TreesN (wr.drewN m7) (fun k => w.heap.size + 1 ≤ k) ts nds) := kH (TreesN.kept (w := wr) (w' := (wr.drewN m7)) (B := Free (w.heap.size + 1) (.slice p nds.length c)) (B' := fun k => w.heap.size + 1 ≤ k) (fun _ _ _ => rfl) (fun _ h _ => h.1) ts nds hts)
    have HRG : Hid (Rg (wr.drewN m7) b s s.size op 0 0) := kH HR.out
    go_wp2_with fail
    refine (GA.out p c nds _ HOWN.out HLN.out).mono ?_
    rintro e w9 ⟨rfl, hb9⟩
    have HTR := kH (gather_tree (k := 2) HOWN.out HOB.out HTS.out)
    have HTR := kH (HTR.out.kept (w' := w9) (B' := fun k => w.heap.size + 1 ≤ k) (fun k _ hk => hb9.block k hk) (fun k hk _ => hk))
    generalize gatherN ((2 : Nat) : Int) p nds.length c nds = nd at *
    have HR9 := kH (HRG.out.below hb9)
    have HO9 := kH (HONL.out.trans (Onl.of_below hb9 (Nat.le_refl _)))
    have HN9 := kH (HRES.out.below hb9)
    clear hb9
    unfold Nd.val
    obtain ⟨d0, d1, d2, d3, d4, d5, k0, k1, k2, k3, k4, k5⟩ := HN9.out.cells
    go_wp2_with fail
    try rw [Exit.noGoto_ret]
    exact bodyPost_ret (v := nd.val) (by simp [results, Tryz.results133, go_sem, Nd.val, d0, d1, d2, d3, d4, d5]) rfl (by
     have hR := HR9.out.put6 (fun e => HB.out e.symm) nd
     have hO := HO9.out.put6 (Nat.le_refl _) nd
     rw [HXE.out]
     exact ⟨HSF.out.1, _, rfl, VN.stored HTR.out (Nat.lt_succ_self _), by rw [HSF.out.2]; exact hR, hO⟩)
   ·
    obtain ⟨q, hq, hqc, e3, e4, hr, hlen⟩ := rg_cons hl2
    rw [List.length_cons, e3] at hR
    have HR : Hid (Rg wr b s q op 0 0) := kH hR
    have DN := kH fun W H => rdone_no b s q op 0 0 W H hq
    have hqi : (q : Int) < (s.size : Int) := by omega
    have hqi2 : decide ((q : Int) < (s.size : Int)) = true := by simpa using hqi
    have HTW := kH hts
    have H2 := kH (And.intro hr e4)
    have HSX : Hid ((x :: r) <:+ s.data.toList ∧ s.size - (x :: r).length = q) := kH ⟨hl2, e3⟩
    have HXL := kH hXl
    have HFG : Hid (r.length + 1 ≤ gk ∧ r.length < f') := kH ⟨hgk, by simp only [List.length_cons] at hf; omega⟩
    have hxb := x.toNat_lt
    clear hl2 hf hgk hXl hR hts e3 e4 hr hlen
    by_cases hbr : x = 124 ∨ x = 41
    ·
     have HXE : Hid (X = .ok (ts, x :: r)) := kH (by rw [← HXL.out]; unfold partLoop; simp only; rw [if_pos hbr])
     have HSF : Hid ((x :: r) <:+ s.data.toList ∧ s.size - (x :: r).length = q) := HSX
     rcases hbr with hbr | hbr
     ·
      have b124 : (x.toNat : Int) = 124 := by rw [hbr]; rfl
      clear hbr HXL
      go_wp2_with fail
      refine (DN.out _ HR.out).mono ?_
      rintro e w7 ⟨rfl, m7, rfl⟩
      obtain ⟨c0, c1, c2, c3, c4, f1, f2, f3, f4⟩ := HR.out.cells
      go_wp2_with fail
      go_quiet (fail)
      try rw [World.drewN_drewN]
      clear c0 c1 c2 c3 c4 f1 f2 f3 f4
      generalize m7 + nq = m7 at *
      have hts := HTW.out
      have HOWN : Hid ((wr.drewN m7).ownsRow 0 100 6 (.slice p nds.length c) nds.length (ndRow nds)) := kH (rg_own_less HS.out.own (Nat.zero_le _))
      have HRES : Hid (BlkN (wr.drewN m7) w.heap.size Nd.zero) := kH HS.out.res
      have HONL : Hid (Onl b w (wr.drewN m7)) := kH HS.out.onl.drewN
      have HLN : Hid (nds.length ≤ 100000) := kH (by have := HS.out.len; omega)
      have HOB : Hid (∀ g, (Value.slice p nds.length c).ownBlock = some g → w.heap.size + 1 ≤ g) := kH (fun g hg => (rg_own_base HS.out.own g hg).1)
      have HTS : Hid (TreesN (wr.drewN m7) (fun k => w.heap.size + 1 ≤ k) ts nds) := kH (TreesN.kept (w := wr) (w' := (wr.drewN m7)) (B := Free (w.heap.size + 1) (.slice p nds.length c)) (B' := fun k => w.heap.size + 1 ≤ k) (fun _ _ _ => rfl) (fun _ h _ => h.1) ts nds hts)
      have HRG : Hid (Rg (wr.drewN m7) b s q op 0 0) := kH HR.out
      go_wp2_with fail
      refine (GA.out p c nds _ HOWN.out HLN.out).mono ?_
      rintro e w9 ⟨rfl, hb9⟩
      have HTR := kH (gather_tree (k := 2) HOWN.out HOB.out HTS.out)
      have HTR := kH (HTR.out.kept (w' := w9) (B' := fun k => w.heap.size + 1 ≤ k) (fun k _ hk => hb9.block k hk) (fun k hk _ => hk))
      generalize gatherN ((2 : Nat) : Int) p nds.length c nds = nd at *
      have HR9 := kH (HRG.out.below hb9)
      have HO9 := kH (HONL.out.trans (Onl.of_below hb9 (Nat.le_refl _)))
      have HN9 := kH (HRES.out.below hb9)
      clear hb9
      unfold Nd.val
      obtain ⟨d0, d1, d2, d3, d4, d5, k0, k1, k2, k3, k4, k5⟩ := HN9.out.cells
      go_wp2_with fail
      try rw [Exit.noGoto_ret]
      exact bodyPost_ret (v := nd.val) (by simp [results, Tryz.results133, go_sem, Nd.val, d0, d1, d2, d3, d4, d5]) rfl (by
       have hR := HR9.out.put6 (fun e => HB.out e.symm) nd
       have hO := HO9.out.put6 (Nat.le_refl _) nd
       rw [HXE.out]
       exact ⟨HSF.out.1, _, rfl, VN.stored HTR.out (Nat.lt_succ_self _), by rw [HSF.out.2]; exact hR, hO⟩)
     ·
      have b41 : (x.toNat : Int) = 41 := by rw [hbr]; rfl
      have g124 : ((x.toNat : Int) == 124) = false := by rw [hbr]; rfl
      clear hbr HXL
      go_wp2_with fail
      refine (DN.out _ HR.out).mono ?_
      rintro e w7 ⟨rfl, m7, rfl⟩
      obtain ⟨c0, c1, c2, c3, c4, f1, f2, f3, f4⟩ := HR.out.cells
      go_wp2_with fail
      go_quiet (fail)
      try rw [World.drewN_drewN]
      clear c0 c1 c2 c3 c4 f1 f2 f3 f4
      generalize m7 + nq = m7 at *
      have hts := HTW.out
      have HOWN : Hid ((wr.drewN m7).ownsRow 0 100 6 (.slice p nds.length c) nds.length (ndRow nds)) := kH (rg_own_less HS.out.own (Nat.zero_le _))
      have HRES : Hid (BlkN (wr.drewN m7) w.heap.size Nd.zero) := kH HS.out.res
      have HONL : Hid (Onl b w (wr.drewN m7)) := kH HS.out.onl.drewN
      have HLN : Hid (nds.length ≤ 100000) := kH (by have := HS.out.len; omega)
      have HOB : Hid (∀ g, (Value.slice p nds.length c).ownBlock = some g → w.heap.size + 1 ≤ g) := kH (fun g hg => (rg_own_base HS.out.own g hg).1)
      have HTS : Hid (TreesN (wr.drewN m7) (fun k => w.heap.size + 1 ≤ k) ts nds) := kH (TreesN.kept (w := wr) (w' := (wr.drewN m7)) (B := Free (w.heap.size + 1) (.slice p nds.length c)) (B' := fun k => w.heap.size + 1 ≤ k) (fun _ _ _ => rfl) (fun _ h _ => h.1) ts nds hts)
      have HRG : Hid (Rg (wr.drewN m7) b s q op 0 0) := kH HR.out
      go_wp2_with fail
      refine (GA.out p c nds _ HOWN.out HLN.out).mono ?_
      rintro e w9 ⟨rfl, hb9⟩
      have HTR := kH (gather_tree (k := 2) HOWN.out HOB.out HTS.out)
      have HTR := kH (HTR.out.kept (w' := w9) (B' := fun k => w.heap.size + 1 ≤ k) (fun k _ hk => hb9.block k hk) (fun k hk _ => hk))
      generalize gatherN ((2 : Nat) : Int) p nds.length c nds = nd at *
      have HR9 := kH (HRG.out.below hb9)
      have HO9 := kH (HONL.out.trans (Onl.of_below hb9 (Nat.le_refl _)))
      have HN9 := kH (HRES.out.below hb9)
      clear hb9
      unfold Nd.val
      obtain ⟨d0, d1, d2, d3, d4, d5, k0, k1, k2, k3, k4, k5⟩ := HN9.out.cells
      go_wp2_with fail
      try rw [Exit.noGoto_ret]
      exact bodyPost_ret (v := nd.val) (by simp [results, Tryz.results133, go_sem, Nd.val, d0, d1, d2, d3, d4, d5]) rfl (by
       have hR := HR9.out.put6 (fun e => HB.out e.symm) nd
       have hO := HO9.out.put6 (Nat.le_refl _) nd
       rw [HXE.out]
       exact ⟨HSF.out.1, _, rfl, VN.stored HTR.out (Nat.lt_succ_self _), by rw [HSF.out.2]; exact hR, hO⟩)
    ·
     have hx124 : x ≠ 124 := fun h => hbr (.inl h)
     have hx41 : x ≠ 41 := fun h => hbr (.inr h)
     have n124 : ¬ x.toNat = 124 := fun e => hx124 (UInt8.toNat_inj.1 e)
     have g124 : ((x.toNat : Int) == 124) = false := by rw [Bool.eq_false_iff]; simp; omega
     have n41 : ¬ x.toNat = 41 := fun e => hx41 (UInt8.toNat_inj.1 e)
     have g41 : ((x.toNat : Int) == 41) = false := by rw [Bool.eq_false_iff]; simp; omega
     by_cases hsg : signB x = true
     ·
      have hsg3 : x = 42 ∨ x = 43 ∨ x = 63 := by unfold signB at hsg; simpa [or_assoc] using hsg
      rcases hnd : nds.getLast? with _ | l
      ·
       have hn0 : nds = [] := List.getLast?_eq_none_iff.1 hnd
       have ht0 : ts = [] := List.eq_nil_of_length_eq_zero (by rw [← HTW.out.len, hn0]; rfl)
       have HXE : Hid (X = .error (r.length + 1, 9)) := kH (by rw [← HXL.out, ht0]; unfold partLoop; simp only; rw [if_neg hbr, if_pos hsg]; rfl)
       have hz : ((nds.length : Int) == 0) = true := by rw [hn0]; rfl
       have HE : Hid ((9 = 9 ∨ 9 = 14) ∧ r.length + 1 ≤ s.size) := kH ⟨.inl rfl, by have := HSX.out.2; have := rg_len HSX.out.1; simpa using this⟩
       have F0 := kH fun W H => rfail0 b s q op 0 q 9 W H
       have HQ : Hid (s.size - (r.length + 1) = q) := kH HSX.out.2
       clear hnd hn0 ht0 hsg HXL hbr hx124 hx41
       rcases hsg3 with h3 | h3 | h3
       ·
        have b42 : (x.toNat : Int) = 42 := by rw [h3]; rfl
        clear h3
        go_wp2_with fail
        refine (DN.out _ HR.out).mono ?_
        rintro e w7 ⟨rfl, m7, rfl⟩
        obtain ⟨c0, c1, c2, c3, c4, f1, f2, f3, f4⟩ := HR.out.cells
        go_wp2_with fail
        go_quiet (fail)
        try rw [World.drewN_drewN]
        clear c0 c1 c2 c3 c4 f1 f2 f3 f4
        generalize m7 + nq = m7 at *
        have c1 := HR.out.cells.c1
        go_wp2_with fail
        clear c1
        refine (F0.out (wr.drewN m7) HR.out).mono ?_
        rintro e w8 ⟨rfl, hr8, o8⟩
        have HR8 := kH hr8
        have HO8 := kH ((HS.out.onl.drewN (n := m7)).trans o8)
        have hk8 : ∀ g, g < wr.heap.size → g ≠ b → w8.heap[g]? = wr.heap[g]? := fun g h1 h2 => o8.block g h1 h2
        have HOWN : Hid (w8.ownsRow 0 100 6 (.slice p nds.length c) nds.length (ndRow nds)) := kH (rg_own_less (rg_own_kept HS.out.own (fun g hg => hk8 g (rg_own_base HS.out.own g hg).2 (by have := (rg_own_base HS.out.own g hg).1; have := HB2.out; omega))) (Nat.zero_le _))
        have HRES : Hid (BlkN w8 w.heap.size Nd.zero) := kH ((hk8 _ HS.out.res.lt (fun e => HB.out e.symm)).trans HS.out.res)
        have HONL : Hid (Onl b w w8) := HO8
        have HLN : Hid (nds.length ≤ 100000) := kH (by have := HS.out.len; omega)
        have HRG : Hid (Rg w8 b s s.size op q 9) := HR8
        clear hr8 o8 hk8
        go_wp2_with fail
        refine (GA.out p c nds _ HOWN.out HLN.out).mono ?_
        rintro e w9 ⟨rfl, hb9⟩
        generalize gatherN ((2 : Nat) : Int) p nds.length c nds = nd at *
        have HR9 := kH (HRG.out.below hb9)
        have HO9 := kH (HONL.out.trans (Onl.of_below hb9 (Nat.le_refl _)))
        have HN9 := kH (HRES.out.below hb9)
        clear hb9
        unfold Nd.val
        obtain ⟨d0, d1, d2, d3, d4, d5, k0, k1, k2, k3, k4, k5⟩ := HN9.out.cells
        go_wp2_with fail
        try rw [Exit.noGoto_ret]
        exact bodyPost_ret (v := nd.val) (by simp [results, Tryz.results133, go_sem, Nd.val, d0, d1, d2, d3, d4, d5]) rfl (by
         have hR := HR9.out.put6 (fun e => HB.out e.symm) nd
         have hO := HO9.out.put6 (Nat.le_refl _) nd
         rw [HXE.out]
         exact ⟨.inl rfl, HE.out.2, _, rfl, ⟨_, rfl⟩, by rw [HQ.out]; exact hR, hO⟩)
       ·
        have b43 : (x.toNat : Int) = 43 := by rw [h3]; rfl
        have g42 : ((x.toNat : Int) == 42) = false := by rw [b43]; rfl
        clear h3
        go_wp2_with fail
        refine (DN.out _ HR.out).mono ?_
        rintro e w7 ⟨rfl, m7, rfl⟩
        obtain ⟨c0, c1, c2, c3, c4, f1, f2, f3, f4⟩ := HR.out.cells
        go_wp2_with fail
        go_quiet (fail)
        try rw [World.drewN_drewN]
        clear c0 c1 c2 c3 c4 f1 f2 f3 f4
        generalize m7 + nq = m7 at *
        have c1 := HR.out.cells.c1
        go_wp2_with fail
        clear c1
        refine (F0.out (wr.drewN m7) HR.out).mono ?_
        rintro e w8 ⟨rfl, hr8, o8⟩
        have HR8 := kH hr8
        have HO8 := kH ((HS.out.onl.drewN (n := m7)).trans o8)
        have hk8 : ∀ g, g < wr.heap.size → g ≠ b → w8.heap[g]? = wr.heap[g]? := fun g h1 h2 => o8.block g h1 h2
        have HOWN : Hid (w8.ownsRow 0 100 6 (.slice p nds.length c) nds.length (ndRow nds)) := kH (rg_own_less (rg_own_kept HS.out.own (fun g hg => hk8 g (rg_own_base HS.out.own g hg).2 (by have := (rg_own_base HS.out.own g hg).1; have := HB2.out; omega))) (Nat.zero_le _))
        have HRES : Hid (BlkN w8 w.heap.size Nd.zero) := kH ((hk8 _ HS.out.res.lt (fun e => HB.out e.symm)).trans HS.out.res)
        have HONL : Hid (Onl b w w8) := HO8
        have HLN : Hid (nds.length ≤ 100000) := kH (by have := HS.out.len; omega)
        have HRG : Hid (Rg w8 b s s.size op q 9) := HR8
        clear hr8 o8 hk8
        go_wp2_with fail
        refine (GA.out p c nds _ HOWN.out HLN.out).mono ?_
        rintro e w9 ⟨rfl, hb9⟩
        generalize gatherN ((2 : Nat) : Int) p nds.length c nds = nd at *
        have HR9 := kH (HRG.out.below hb9)
        have HO9 := kH (HONL.out.trans (Onl.of_below hb9 (Nat.le_refl _)))
        have HN9 := kH (HRES.out.below hb9)
        clear hb9
        unfold Nd.val
        obtain ⟨d0, d1, d2, d3, d4, d5, k0, k1, k2, k3, k4, k5⟩ := HN9.out.cells
        go_wp2_with fail
        try rw [Exit.noGoto_ret]
        exact bodyPost_ret (v := nd.val) (by simp [results, Tryz.results133, go_sem, Nd.val, d0, d1, d2, d3, d4, d5]) rfl (by
         have hR := HR9.out.put6 (fun e => HB.out e.symm) nd
         have hO := HO9.out.put6 (Nat.le_refl _) nd
         rw [HXE.out]
         exact ⟨.inl rfl, HE.out.2, _, rfl, ⟨_, rfl⟩, by rw [HQ.out]; exact hR, hO⟩)
       ·
        have b63 : (x.toNat : Int) = 63 := by rw [h3]; rfl
        have g42 : ((x.toNat : Int) == 42) = false := by rw [b63]; rfl
        have g43 : ((x.toNat : Int) == 43) = false := by rw [b63]; rfl
        clear h3
        go_wp2_with fail
        refine (DN.out _ HR.out).mono ?_
        rintro e w7 ⟨rfl, m7, rfl⟩
        obtain ⟨c0, c1, c2, c3, c4, f1, f2, f3, f4⟩ := HR.out.cells
        go_wp2_with fail
        go_quiet (fail)
        try rw [World.drewN_drewN]
        clear c0 c1 c2 c3 c4 f1 f2 f3 f4
        generalize m7 + nq = m7 at *
        have c1 := HR.out.cells.c1
        go_wp2_with fail
        clear c1
        refine (F0.out (wr.drewN m7) HR.out).mono ?_
        rintro e w8 ⟨rfl, hr8, o8⟩
        have HR8 := kH hr8
        have HO8 := kH ((HS.out.onl.drewN (n := m7)).trans o8)
        have hk8 : ∀ g, g < wr.heap.size → g ≠ b → w8.heap[g]? = wr.heap[g]? := fun g h1 h2 => o8.block g h1 h2
        have HOWN : Hid (w8.ownsRow 0 100 6 (.slice p nds.length c) nds.length (ndRow nds)) := kH (rg_own_less (rg_own_kept HS.out.own (fun g hg => hk8 g (rg_own_base HS.out.own g hg).2 (by have := (rg_own_base HS.out.own g hg).1; have := HB2.out; omega))) (Nat.zero_le _))
        have HRES : Hid (BlkN w8 w.heap.size Nd.zero) := kH ((hk8 _ HS.out.res.lt (fun e => HB.out e.symm)).trans HS.out.res)
        have HONL : Hid (Onl b w w8) := HO8
        have HLN : Hid (nds.length ≤ 100000) := kH (by have := HS.out.len; omega)
        have HRG : Hid (Rg w8 b s s.size op q 9) := HR8
        clear hr8 o8 hk8
        go_wp2_with fail
        refine (GA.out p c nds _ HOWN.out HLN.out).mono ?_
        rintro e w9 ⟨rfl, hb9⟩
        generalize gatherN ((2 : Nat) : Int) p nds.length c nds = nd at *
        have HR9 := kH (HRG.out.below hb9)
        have HO9 := kH (HONL.out.trans (Onl.of_below hb9 (Nat.le_refl _)))
        have HN9 := kH (HRES.out.below hb9)
        clear hb9
        unfold Nd.val
        obtain ⟨d0, d1, d2, d3, d4, d5, k0, k1, k2, k3, k4, k5⟩ := HN9.out.cells
        go_wp2_with fail
        try rw [Exit.noGoto_ret]
        exact bodyPost_ret (v := nd.val) (by simp [results, Tryz.results133, go_sem, Nd.val, d0, d1, d2, d3, d4, d5]) rfl (by
         have hR := HR9.out.put6 (fun e => HB.out e.symm) nd
         have hO := HO9.out.put6 (Nat.le_refl _) nd
         rw [HXE.out]
         exact ⟨.inl rfl, HE.out.2, _, rfl, ⟨_, rfl⟩, by rw [HQ.out]; exact hR, hO⟩)
      ·
       obtain ⟨A, rfl⟩ := List.getLast?_eq_some_iff.1 hnd
       have hlts := HTW.out.len
       obtain ⟨ts0, t, rfl⟩ : ∃ ts0 t, ts = ts0 ++ [t] := by
        rcases List.eq_nil_or_concat ts with h | ⟨a, b', h⟩
        ·
         rw [h] at hlts; simp at hlts
        ·
         exact ⟨a, b', by rw [h]; simp⟩
       have HXE : Hid (partLoop withW notW orW G f' r (ts0 ++ [.mk (oftenR x) W4.zero [t]]) = X) := kH (by
        rw [← HXL.out]
        conv => rhs; unfold partLoop
        simp only
        rw [if_neg hbr, if_pos hsg]
        simp)
       have OF := kH (roften_any x)
       obtain ⟨k, hk⟩ : ∃ k, A.length = k := ⟨_, rfl⟩
       have hln : ∀ y, (A ++ [y]).length = k + 1 := fun y => by simp [hk]
       have HK := kH (And.intro hk hln)
       have hkb : k + 1 + gk ≤ s.size + 1 := by have := HS.out.len; rw [hln] at this; exact this
       have hown := HS.out.own
       have hres := HS.out.res
       have honl := HS.out.onl
       rw [hln] at hown ⊢
       obtain ⟨g, c2, hpc, hc2⟩ := rg_own_succ hown
       obtain ⟨rfl, rfl⟩ : p = some ⟨g, 0, none⟩ ∧ c = c2 := by simpa using hpc
       have htw := HTW.out
       rw [hln] at htw
       have HTW2 := kH htw
       have HOWN := kH hown
       have HRES := kH hres
       have HONL := kH honl
       have hz : (((k + 1 : Nat) : Int) == 0) = false := by rw [Bool.eq_false_iff]; simp; omega
       have hz2 : ((k : Int) + 1 == 0) = false := by rw [Bool.eq_false_iff]; simp; omega
       have hw1 : IntKind.i64.wrap (k : Int) = (k : Int) := by rw [IntKind.wrap_i64]; omega
       have hw2 : (k : Int) < (k : Int) + 1 := by omega
       have hw3 : 0 ≤ (k : Int) := by omega
       have hkb2 : (k : Int) ≤ 10000 := by omega
       clear hnd HXL hk hln hown hres honl hpc hlts hbr hx124 hx41 hsg htw HTW HS hc2
       generalize oftenR x = ov at *
       rcases hsg3 with h3 | h3 | h3
       ·
        have b42 : (x.toNat : Int) = 42 := by rw [h3]; rfl
        rw [b42] at OF
        clear h3
        go_wp2_with fail
        refine (DN.out _ HR.out).mono ?_
        rintro e w7 ⟨rfl, m7, rfl⟩
        obtain ⟨c0, c1, c2, c3, c4, f1, f2, f3, f4⟩ := HR.out.cells
        go_wp2_with fail
        go_quiet (fail)
        try rw [World.drewN_drewN]
        clear c0 c1 c2 c3 c4 f1 f2 f3 f4
        generalize m7 + nq = m7 at *
        have HOWN : Hid ((wr.drewN m7).ownsRow (w.heap.size + 1) 100 6 (.slice (some ⟨g, 0, none⟩) (k + 1) c) (k + 1) (ndRow (A ++ [l]))) := kH HOWN.out
        have HRES : Hid (BlkN (wr.drewN m7) w.heap.size Nd.zero) := kH HRES.out
        have HONL : Hid (Onl b w (wr.drewN m7)) := kH HONL.out.drewN
        have HTW2 : Hid (TreesN (wr.drewN m7) (Free (w.heap.size + 1) (.slice (some ⟨g, 0, none⟩) (k + 1) c)) (ts0 ++ [t]) (A ++ [l])) := kH (TreesN.kept (w := wr) (w' := wr.drewN m7) (fun _ _ _ => rfl) (fun _ h _ => h) _ _ HTW2.out)
        have HR : Hid (Rg (wr.drewN m7) b s q op 0 0) := kH HR.out
        go_wp2_with fail
        generalize wr.drewN m7 = w6 at *
        refine wp_region_L (st := [9]) (S := fun w' => w'.ownsRow (w.heap.size + 1) 100 6 (.slice (some ⟨g, 0, none⟩) (k + 1) c) (k + 1) (ndRow (A ++ [l]))) (by kernel_rfl) (HOWN.out) (fun hHeld => ?_)
        refine tkL 0 (v := ?_) rfl ?_ ?_
        rotate_left
        ·
         (intro w hSw; (obtain ⟨⟨q0, q1, q2, q3, q4, q5⟩, _⟩ := last_cells HK.out.1 hSw); go_simp; try with_reducible rfl)
        try simp only [nrm]
        refine tkL 1 (v := ?_) rfl ?_ ?_
        rotate_left
        ·
         (intro w hSw; (obtain ⟨⟨q0, q1, q2, q3, q4, q5⟩, _⟩ := last_cells HK.out.1 hSw); go_simp; try with_reducible rfl)
        try simp only [nrm]
        refine tkL 3 (v := ?_) rfl ?_ ?_
        rotate_left
        ·
         (intro w hSw; (obtain ⟨⟨q0, q1, q2, q3, q4, q5⟩, _⟩ := last_cells HK.out.1 hSw); go_simp; try with_reducible rfl)
        try simp only [nrm]
        refine tkL 4 (v := ?_) rfl ?_ ?_
        rotate_left
        ·
         (intro w hSw; (obtain ⟨⟨q0, q1, q2, q3, q4, q5⟩, _⟩ := last_cells HK.out.1 hSw); go_simp; try with_reducible rfl)
        try simp only [nrm]
        refine tkL 5 (v := ?_) rfl ?_ ?_
        rotate_left
        ·
         (intro w hSw; (obtain ⟨⟨q0, q1, q2, q3, q4, q5⟩, _⟩ := last_cells HK.out.1 hSw); go_simp; try with_reducible rfl)
        try simp only [nrm]
        refine wpAnyL_ready (rs := [2, 6]) (by kernel_rfl) (by simp) ?_
        refine AllReadyL.cons (o := _) rfl (fun K hK => ?_) (AllReadyL.cons (o := _) rfl (fun K hK => ?_) AllReadyL.nil)
        ·
         go_simp
         refine (OF.out _).mono ?_
         rintro e w8 ⟨rfl, rfl⟩
         refine hK.out _ _ (hHeld) (fun hHeld => ?_)
         clear hK K
         try simp only [nrm]
         refine rdL 6 rfl (fun K hK => ?_)
         go_simp
         refine hK.out _ _ (World.ownsRow.alloc hHeld _) (fun hHeld => ?_)
         clear hK K
         try simp only [nrm]
         refine tkL 7 (v := ?_) rfl ?_ ?_
         rotate_left
         ·
          (intro w hSw; (obtain ⟨⟨q0, q1, q2, q3, q4, q5⟩, _⟩ := last_cells HK.out.1 hSw); go_simp; try with_reducible rfl)
         try simp only [nrm]
         refine tkL 8 (v := ?_) rfl ?_ ?_
         rotate_left
         ·
          (intro w hSw; (obtain ⟨⟨q0, q1, q2, q3, q4, q5⟩, _⟩ := last_cells HK.out.1 hSw); go_simp; try with_reducible rfl)
         try simp only [nrm]
         obtain ⟨⟨q0, q1, q2, q3, q4, q5⟩, p0, p1, p2, p3, p4, p5⟩ := last_cells HK.out.1 HOWN.out
         have hgl : g < w6.heap.size := (rg_own_base HOWN.out g rfl).2
         refine wpAnyL_ready (rs := [9]) (by kernel_rfl) (by simp) ?_
         refine AllReadyL.store (o := _) rfl (by decide) (by decide) (fun K hK => ?_) AllReadyL.nil
         go_simp
         refine hK.out _ _ ?_
         clear hK K
         try simp only [nrm]
         refine wpAnyL_done (by kernel_rfl) ?_ _
         clear q0 q1 q2 q3 q4 q5 p0 p1 p2 p3 p4 p5 hHeld hgl
         have HP := kH (part_sgn (w0 := w) (wr := w6) (b := b) (n0 := w.heap.size + 1) (g := g) (c := c) (m := k + 1) (A := A) (l := l) ov HOWN.out HRES.out HONL.out HB2.out rfl ((((((((w6.setCell ⟨g, k * 6, none⟩ (.int .i64 (ov : Int))).setCell ⟨g, k * 6 + 1, none⟩ (.int .u64 0)).setCell ⟨g, k * 6 + 2, none⟩ (.int .u64 0)).setCell ⟨g, k * 6 + 3, none⟩ (.int .u64 0)).setCell ⟨g, k * 6 + 4, none⟩ (.int .u64 0)).setCell ⟨g, k * 6 + 5, none⟩ (.slice (some ⟨w6.heap.size, 0, none⟩) 1 1)).alloc (.cells #[.int .i64 l.op, .int .u64 l.set.a, .int .u64 l.set.b, .int .u64 l.set.c, .int .u64 l.set.d, .slice l.kp l.kn l.kc] 100)).drew) (by unfold putK; rw [HK.out.1]; rfl))
         generalize (((((((w6.setCell ⟨g, k * 6, none⟩ (.int .i64 (ov : Int))).setCell ⟨g, k * 6 + 1, none⟩ (.int .u64 0)).setCell ⟨g, k * 6 + 2, none⟩ (.int .u64 0)).setCell ⟨g, k * 6 + 3, none⟩ (.int .u64 0)).setCell ⟨g, k * 6 + 4, none⟩ (.int .u64 0)).setCell ⟨g, k * 6 + 5, none⟩ (.slice (some ⟨w6.heap.size, 0, none⟩) 1 1)).alloc (.cells #[.int .i64 l.op, .int .u64 l.set.a, .int .u64 l.set.b, .int .u64 l.set.c, .int .u64 l.set.d, .slice l.kp l.kn l.kc] 100)).drew = w9 at *
         have HR9 := kH (HP.out.2.2.2.1 s q op 0 0 HR.out)
         obtain ⟨c0, c1, c2, c3, c4, f1, f2, f3, f4⟩ := HR9.out.cells
         go_wp2_with fail
         go_roundg (gk - 1)
         case measure => have := HFG.out.1; omega
         case rel =>
          have hk2 := HK.out.2 ⟨(ov : Int), W4.zero, some ⟨w6.heap.size, 0, none⟩, 1, 1⟩
          have hq := HP.out
          refine ⟨some ⟨g, 0, none⟩, c, A ++ [⟨(ov : Int), W4.zero, some ⟨w6.heap.size, 0, none⟩, 1, 1⟩], by rw [hk2], kH ?_⟩
          rw [hk2]
          refine ⟨?_, ?_, ?_, hq.2.2.1.setCell 1 _, .inl ⟨f', r, ts0 ++ [.mk ov W4.zero [t]], H2.out.1, HFG.out.2, by have := HFG.out.1; omega, HXE.out, ?_, ?_⟩⟩
          ·
           rw [hk2]; exact rg_own_kept hq.1 (fun g' hg' => Below.heap_setCell _ _ _ g' (fun e => by have := (rg_own_base hq.1 g' hg').1; have h2 := HB2.out; change g' = b at e; omega))
          ·
           rw [hk2]; have := HFG.out.1; omega
          ·
           exact hq.2.1.setNew (p := ⟨b, 1, none⟩) HB.out _
          ·
           rw [H2.out.2]; exact HR9.out.setP (q + 1)
          ·
           exact TreesN.kept (fun k' hk' _ => Below.heap_setCell _ _ _ k' (fun e => by have := hk'.1; have h2 := HB2.out; change k' = b at e; omega)) (fun _ h _ => h) _ _ (hq.2.2.2.2 ts0 t HTW2.out)
        ·
         go_simp
         refine hK.out _ _ (World.ownsRow.alloc hHeld _) (fun hHeld => ?_)
         clear hK K
         try simp only [nrm]
         refine rdL 2 rfl (fun K hK => ?_)
         go_simp
         refine (OF.out _).mono ?_
         rintro e w8 ⟨rfl, rfl⟩
         refine hK.out _ _ (hHeld) (fun hHeld => ?_)
         clear hK K
         try simp only [nrm]
         refine tkL 7 (v := ?_) rfl ?_ ?_
         rotate_left
         ·
          (intro w hSw; (obtain ⟨⟨q0, q1, q2, q3, q4, q5⟩, _⟩ := last_cells HK.out.1 hSw); go_simp; try with_reducible rfl)
         try simp only [nrm]
         refine tkL 8 (v := ?_) rfl ?_ ?_
         rotate_left
         ·
          (intro w hSw; (obtain ⟨⟨q0, q1, q2, q3, q4, q5⟩, _⟩ := last_cells HK.out.1 hSw); go_simp; try with_reducible rfl)
         try simp only [nrm]
         obtain ⟨⟨q0, q1, q2, q3, q4, q5⟩, p0, p1, p2, p3, p4, p5⟩ := last_cells HK.out.1 HOWN.out
         have hgl : g < w6.heap.size := (rg_own_base HOWN.out g rfl).2
         refine wpAnyL_ready (rs := [9]) (by kernel_rfl) (by simp) ?_
         refine AllReadyL.store (o := _) rfl (by decide) (by decide) (fun K hK => ?_) AllReadyL.nil
         go_simp
         refine hK.out _ _ ?_
         clear hK K
         try simp only [nrm]
         refine wpAnyL_done (by kernel_rfl) ?_ _
         clear q0 q1 q2 q3 q4 q5 p0 p1 p2 p3 p4 p5 hHeld hgl
         have HP := kH (part_sgn (w0 := w) (wr := w6) (b := b) (n0 := w.heap.size + 1) (g := g) (c := c) (m := k + 1) (A := A) (l := l) ov HOWN.out HRES.out HONL.out HB2.out rfl ((((((((w6.setCell ⟨g, k * 6, none⟩ (.int .i64 (ov : Int))).setCell ⟨g, k * 6 + 1, none⟩ (.int .u64 0)).setCell ⟨g, k * 6 + 2, none⟩ (.int .u64 0)).setCell ⟨g, k * 6 + 3, none⟩ (.int .u64 0)).setCell ⟨g, k * 6 + 4, none⟩ (.int .u64 0)).setCell ⟨g, k * 6 + 5, none⟩ (.slice (some ⟨w6.heap.size, 0, none⟩) 1 1)).alloc (.cells #[.int .i64 l.op, .int .u64 l.set.a, .int .u64 l.set.b, .int .u64 l.set.c, .int .u64 l.set.d, .slice l.kp l.kn l.kc] 100)).drew) (by unfold putK; rw [HK.out.1]; rfl))
         generalize (((((((w6.setCell ⟨g, k * 6, none⟩ (.int .i64 (ov : Int))).setCell ⟨g, k * 6 + 1, none⟩ (.int .u64 0)).setCell ⟨g, k * 6 + 2, none⟩ (.int .u64 0)).setCell ⟨g, k * 6 + 3, none⟩ (.int .u64 0)).setCell ⟨g, k * 6 + 4, none⟩ (.int .u64 0)).setCell ⟨g, k * 6 + 5, none⟩ (.slice (some ⟨w6.heap.size, 0, none⟩) 1 1)).alloc (.cells #[.int .i64 l.op, .int .u64 l.set.a, .int .u64 l.set.b, .int .u64 l.set.c, .int .u64 l.set.d, .slice l.kp l.kn l.kc] 100)).drew = w9 at *
         have HR9 := kH (HP.out.2.2.2.1 s q op 0 0 HR.out)
         obtain ⟨c0, c1, c2, c3, c4, f1, f2, f3, f4⟩ := HR9.out.cells
         go_wp2_with fail
         go_roundg (gk - 1)
         case measure => have := HFG.out.1; omega
         case rel =>
          have hk2 := HK.out.2 ⟨(ov : Int), W4.zero, some ⟨w6.heap.size, 0, none⟩, 1, 1⟩
          have hq := HP.out
          refine ⟨some ⟨g, 0, none⟩, c, A ++ [⟨(ov : Int), W4.zero, some ⟨w6.heap.size, 0, none⟩, 1, 1⟩], by rw [hk2], kH ?_⟩
          rw [hk2]
          refine ⟨?_, ?_, ?_, hq.2.2.1.setCell 1 _, .inl ⟨f', r, ts0 ++ [.mk ov W4.zero [t]], H2.out.1, HFG.out.2, by have := HFG.out.1; omega, HXE.out, ?_, ?_⟩⟩
          ·
           rw [hk2]; exact rg_own_kept hq.1 (fun g' hg' => Below.heap_setCell _ _ _ g' (fun e => by have := (rg_own_base hq.1 g' hg').1; have h2 := HB2.out; change g' = b at e; omega))
          ·
           rw [hk2]; have := HFG.out.1; omega
          ·
           exact hq.2.1.setNew (p := ⟨b, 1, none⟩) HB.out _
          ·
           rw [H2.out.2]; exact HR9.out.setP (q + 1)
          ·
           exact TreesN.kept (fun k' hk' _ => Below.heap_setCell _ _ _ k' (fun e => by have := hk'.1; have h2 := HB2.out; change k' = b at e; omega)) (fun _ h _ => h) _ _ (hq.2.2.2.2 ts0 t HTW2.out)
       ·
        have b43 : (x.toNat : Int) = 43 := by rw [h3]; rfl
        rw [b43] at OF
        have g42 : ((x.toNat : Int) == 42) = false := by rw [b43]; rfl
        clear h3
        go_wp2_with fail
        refine (DN.out _ HR.out).mono ?_
        rintro e w7 ⟨rfl, m7, rfl⟩
        obtain ⟨c0, c1, c2, c3, c4, f1, f2, f3, f4⟩ := HR.out.cells
        go_wp2_with fail
        go_quiet (fail)
        try rw [World.drewN_drewN]
        clear c0 c1 c2 c3 c4 f1 f2 f3 f4
        generalize m7 + nq = m7 at *
        have HOWN : Hid ((wr.drewN m7).ownsRow (w.heap.size + 1) 100 6 (.slice (some ⟨g, 0, none⟩) (k + 1) c) (k + 1) (ndRow (A ++ [l]))) := kH HOWN.out
        have HRES : Hid (BlkN (wr.drewN m7) w.heap.size Nd.zero) := kH HRES.out
        have HONL : Hid (Onl b w (wr.drewN m7)) := kH HONL.out.drewN
        have HTW2 : Hid (TreesN (wr.drewN m7) (Free (w.heap.size + 1) (.slice (some ⟨g, 0, none⟩) (k + 1) c)) (ts0 ++ [t]) (A ++ [l])) := kH (TreesN.kept (w := wr) (w' := wr.drewN m7) (fun _ _ _ => rfl) (fun _ h _ => h) _ _ HTW2.out)
        have HR : Hid (Rg (wr.drewN m7) b s q op 0 0) := kH HR.out
        go_wp2_with fail
        generalize wr.drewN m7 = w6 at *
        refine wp_region_L (st := [9]) (S := fun w' => w'.ownsRow (w.heap.size + 1) 100 6 (.slice (some ⟨g, 0, none⟩) (k + 1) c) (k + 1) (ndRow (A ++ [l]))) (by kernel_rfl) (HOWN.out) (fun hHeld => ?_)
        refine tkL 0 (v := ?_) rfl ?_ ?_
        rotate_left
        ·
         (intro w hSw; (obtain ⟨⟨q0, q1, q2, q3, q4, q5⟩, _⟩ := last_cells HK.out.1 hSw); go_simp; try with_reducible rfl)
        try simp only [nrm]
        refine tkL 1 (v := ?_) rfl ?_ ?_
        rotate_left
        ·
         (intro w hSw; (obtain ⟨⟨q0, q1, q2, q3, q4, q5⟩, _⟩ := last_cells HK.out.1 hSw); go_simp; try with_reducible rfl)
        try simp only [nrm]
        refine tkL 3 (v := ?_) rfl ?_ ?_
        rotate_left
        ·
         (intro w hSw; (obtain ⟨⟨q0, q1, q2, q3, q4, q5⟩, _⟩ := last_cells HK.out.1 hSw); go_simp; try with_reducible rfl)
        try simp only [nrm]
        refine tkL 4 (v := ?_) rfl ?_ ?_
        rotate_left
        ·
         (intro w hSw; (obtain ⟨⟨q0, q1, q2, q3, q4, q5⟩, _⟩ := last_cells HK.out.1 hSw); go_simp; try with_reducible rfl)
        try simp only [nrm]
        refine tkL 5 (v := ?_) rfl ?_ ?_
        rotate_left
        ·
         (intro w hSw; (obtain ⟨⟨q0, q1, q2, q3, q4, q5⟩, _⟩ := last_cells HK.out.1 hSw); go_simp; try with_reducible rfl)
        try simp only [nrm]
        refine wpAnyL_ready (rs := [2, 6]) (by kernel_rfl) (by simp) ?_
        refine AllReadyL.cons (o := _) rfl (fun K hK => ?_) (AllReadyL.cons (o := _) rfl (fun K hK => ?_) AllReadyL.nil)
        ·
         go_simp
         refine (OF.out _).mono ?_
         rintro e w8 ⟨rfl, rfl⟩
         refine hK.out _ _ (hHeld) (fun hHeld => ?_)
         clear hK K
         try simp only [nrm]
         refine rdL 6 rfl (fun K hK => ?_)
         go_simp
         refine hK.out _ _ (World.ownsRow.alloc hHeld _) (fun hHeld => ?_)
         clear hK K
         try simp only [nrm]
         refine tkL 7 (v := ?_) rfl ?_ ?_
         rotate_left
         ·
          (intro w hSw; (obtain ⟨⟨q0, q1, q2, q3, q4, q5⟩, _⟩ := last_cells HK.out.1 hSw); go_simp; try with_reducible rfl)
         try simp only [nrm]
         refine tkL 8 (v := ?_) rfl ?_ ?_
         rotate_left
         ·
          (intro w hSw; (obtain ⟨⟨q0, q1, q2, q3, q4, q5⟩, _⟩ := last_cells HK.out.1 hSw); go_simp; try with_reducible rfl)
         try simp only [nrm]
         obtain ⟨⟨q0, q1, q2, q3, q4, q5⟩, p0, p1, p2, p3, p4, p5⟩ := last_cells HK.out.1 HOWN.out
         have hgl : g < w6.heap.size := (rg_own_base HOWN.out g rfl).2
         refine wpAnyL_ready (rs := [9]) (by kernel_rfl) (by simp) ?_
         refine AllReadyL.store (o := _) rfl (by decide) (by decide) (fun K hK => ?_) AllReadyL.nil
         go_simp
         refine hK.out _ _ ?_
         clear hK K
         try simp only [nrm]
         refine wpAnyL_done (by kernel_rfl) ?_ _
         clear q0 q1 q2 q3 q4 q5 p0 p1 p2 p3 p4 p5 hHeld hgl
         have HP := kH (part_sgn (w0 := w) (wr := w6) (b := b) (n0 := w.heap.size + 1) (g := g) (c := c) (m := k + 1) (A := A) (l := l) ov HOWN.out HRES.out HONL.out HB2.out rfl ((((((((w6.setCell ⟨g, k * 6, none⟩ (.int .i64 (ov : Int))).setCell ⟨g, k * 6 + 1, none⟩ (.int .u64 0)).setCell ⟨g, k * 6 + 2, none⟩ (.int .u64 0)).setCell ⟨g, k * 6 + 3, none⟩ (.int .u64 0)).setCell ⟨g, k * 6 + 4, none⟩ (.int .u64 0)).setCell ⟨g, k * 6 + 5, none⟩ (.slice (some ⟨w6.heap.size, 0, none⟩) 1 1)).alloc (.cells #[.int .i64 l.op, .int .u64 l.set.a, .int .u64 l.set.b, .int .u64 l.set.c, .int .u64 l.set.d, .slice l.kp l.kn l.kc] 100)).drew) (by unfold putK; rw [HK.out.1]; rfl))
         generalize (((((((w6.setCell ⟨g, k * 6, none⟩ (.int .i64 (ov : Int))).setCell ⟨g, k * 6 + 1, none⟩ (.int .u64 0)).setCell ⟨g, k * 6 + 2, none⟩ (.int .u64 0)).setCell ⟨g, k * 6 + 3, none⟩ (.int .u64 0)).setCell ⟨g, k * 6 + 4, none⟩ (.int .u64 0)).setCell ⟨g, k * 6 + 5, none⟩ (.slice (some ⟨w6.heap.size, 0, none⟩) 1 1)).alloc (.cells #[.int .i64 l.op, .int .u64 l.set.a, .int .u64 l.set.b, .int .u64 l.set.c, .int .u64 l.set.d, .slice l.kp l.kn l.kc] 100)).drew = w9 at *
         have HR9 := kH (HP.out.2.2.2.1 s q op 0 0 HR.out)
         obtain ⟨c0, c1, c2, c3, c4, f1, f2, f3, f4⟩ := HR9.out.cells
         go_wp2_with fail
         go_roundg (gk - 1)
         case measure => have := HFG.out.1; omega
         case rel =>
          have hk2 := HK.out.2 ⟨(ov : Int), W4.zero, some ⟨w6.heap.size, 0, none⟩, 1, 1⟩
          have hq := HP.out
          refine ⟨some ⟨g, 0, none⟩, c, A ++ [⟨(ov : Int), W4.zero, some ⟨w6.heap.size, 0, none⟩, 1, 1⟩], by rw [hk2], kH ?_⟩
          rw [hk2]
          refine ⟨?_, ?_, ?_, hq.2.2.1.setCell 1 _, .inl ⟨f', r, ts0 ++ [.mk ov W4.zero [t]], H2.out.1, HFG.out.2, by have := HFG.out.1; omega, HXE.out, ?_, ?_⟩⟩
          ·
           rw [hk2]; exact rg_own_kept hq.1 (fun g' hg' => Below.heap_setCell _ _ _ g' (fun e => by have := (rg_own_base hq.1 g' hg').1; have h2 := HB2.out; change g' = b at e; omega))
          ·
           rw [hk2]; have := HFG.out.1; omega
          ·
           exact hq.2.1.setNew (p := ⟨b, 1, none⟩) HB.out _
          ·
           rw [H2.out.2]; exact HR9.out.setP (q + 1)
          ·
           exact TreesN.kept (fun k' hk' _ => Below.heap_setCell _ _ _ k' (fun e => by have := hk'.1; have h2 := HB2.out; change k' = b at e; omega)) (fun _ h _ => h) _ _ (hq.2.2.2.2 ts0 t HTW2.out)
        ·
         go_simp
         refine hK.out _ _ (World.ownsRow.alloc hHeld _) (fun hHeld => ?_)
         clear hK K
         try simp only [nrm]
         refine rdL 2 rfl (fun K hK => ?_)
         go_simp
         refine (OF.out _).mono ?_
         rintro e w8 ⟨rfl, rfl⟩
         refine hK.out _ _ (hHeld) (fun hHeld => ?_)
         clear hK K
         try simp only [nrm]
         refine tkL 7 (v := ?_) rfl ?_ ?_
         rotate_left
         ·
          (intro w hSw; (obtain ⟨⟨q0, q1, q2, q3, q4, q5⟩, _⟩ := last_cells HK.out.1 hSw); go_simp; try with_reducible rfl)
         try simp only [nrm]
         refine tkL 8 (v := ?_) rfl ?_ ?_
         rotate_left
         ·
          (intro w hSw; (obtain ⟨⟨q0, q1, q2, q3, q4, q5⟩, _⟩ := last_cells HK.out.1 hSw); go_simp; try with_reducible rfl)
         try simp only [nrm]
         obtain ⟨⟨q0, q1, q2, q3, q4, q5⟩, p0, p1, p2, p3, p4, p5⟩ := last_cells HK.out.1 HOWN.out
         have hgl : g < w6.heap.size := (rg_own_base HOWN.out g rfl).2
         refine wpAnyL_ready (rs := [9]) (by kernel_rfl) (by simp) ?_
         refine AllReadyL.store (o := _) rfl (by decide) (by decide) (fun K hK => ?_) AllReadyL.nil
         go_simp
         refine hK.out _ _ ?_
         clear hK K
         try simp only [nrm]
         refine wpAnyL_done (by kernel_rfl) ?_ _
         clear q0 q1 q2 q3 q4 q5 p0 p1 p2 p3 p4 p5 hHeld hgl
         have HP := kH (part_sgn (w0 := w) (wr := w6) (b := b) (n0 := w.heap.size + 1) (g := g) (c := c) (m := k + 1) (A := A) (l := l) ov HOWN.out HRES.out HONL.out HB2.out rfl ((((((((w6.setCell ⟨g, k * 6, none⟩ (.int .i64 (ov : Int))).setCell ⟨g, k * 6 + 1, none⟩ (.int .u64 0)).setCell ⟨g, k * 6 + 2, none⟩ (.int .u64 0)).setCell ⟨g, k * 6 + 3, none⟩ (.int .u64 0)).setCell ⟨g, k * 6 + 4, none⟩ (.int .u64 0)).setCell ⟨g, k * 6 + 5, none⟩ (.slice (some ⟨w6.heap.size, 0, none⟩) 1 1)).alloc (.cells #[.int .i64 l.op, .int .u64 l.set.a, .int .u64 l.set.b, .int .u64 l.set.c, .int .u64 l.set.d, .slice l.kp l.kn l.kc] 100)).drew) (by unfold putK; rw [HK.out.1]; rfl))
         generalize (((((((w6.setCell ⟨g, k * 6, none⟩ (.int .i64 (ov : Int))).setCell ⟨g, k * 6 + 1, none⟩ (.int .u64 0)).setCell ⟨g, k * 6 + 2, none⟩ (.int .u64 0)).setCell ⟨g, k * 6 + 3, none⟩ (.int .u64 0)).setCell ⟨g, k * 6 + 4, none⟩ (.int .u64 0)).setCell ⟨g, k * 6 + 5, none⟩ (.slice (some ⟨w6.heap.size, 0, none⟩) 1 1)).alloc (.cells #[.int .i64 l.op, .int .u64 l.set.a, .int .u64 l.set.b, .int .u64 l.set.c, .int .u64 l.set.d, .slice l.kp l.kn l.kc] 100)).drew = w9 at *
         have HR9 := kH (HP.out.2.2.2.1 s q op 0 0 HR.out)
         obtain ⟨c0, c1, c2, c3, c4, f1, f2, f3, f4⟩ := HR9.out.cells
         go_wp2_with fail
         go_roundg (gk - 1)
         case measure => have := HFG.out.1; omega
         case rel =>
          have hk2 := HK.out.2 ⟨(ov : Int), W4.zero, some ⟨w6.heap.size, 0, none⟩, 1, 1⟩
          have hq := HP.out
          refine ⟨some ⟨g, 0, none⟩, c, A ++ [⟨(ov : Int), W4.zero, some ⟨w6.heap.size, 0, none⟩, 1, 1⟩], by rw [hk2], kH ?_⟩
          rw [hk2]
          refine ⟨?_, ?_, ?_, hq.2.2.1.setCell 1 _, .inl ⟨f', r, ts0 ++ [.mk ov W4.zero [t]], H2.out.1, HFG.out.2, by have := HFG.out.1; omega, HXE.out, ?_, ?_⟩⟩
          ·
           rw [hk2]; exact rg_own_kept hq.1 (fun g' hg' => Below.heap_setCell _ _ _ g' (fun e => by have := (rg_own_base hq.1 g' hg').1; have h2 := HB2.out; change g' = b at e; omega))
          ·
           rw [hk2]; have := HFG.out.1; omega
          ·
           exact hq.2.1.setNew (p := ⟨b, 1, none⟩) HB.out _
          ·
           rw [H2.out.2]; exact HR9.out.setP (q + 1)
          ·
           exact TreesN.kept (fun k' hk' _ => Below.heap_setCell _ _ _ k' (fun e => by have := hk'.1; have h2 := HB2.out; change k' = b at e; omega)) (fun _ h _ => h) _ _ (hq.2.2.2.2 ts0 t HTW2.out)
       ·
        have b63 : (x.toNat : Int) = 63 := by rw [h3]; rfl
        rw [b63] at OF
        have g42 : ((x.toNat : Int) == 42) = false := by rw [b63]; rfl
        have g43 : ((x.toNat : Int) == 43) = false := by rw [b63]; rfl
        clear h3
        go_wp2_with fail
        refine (DN.out _ HR.out).mono ?_
        rintro e w7 ⟨rfl, m7, rfl⟩
        obtain ⟨c0, c1, c2, c3, c4, f1, f2, f3, f4⟩ := HR.out.cells
        go_wp2_with fail
        go_quiet (fail)
        try rw [World.drewN_drewN]
        clear c0 c1 c2 c3 c4 f1 f2 f3 f4
        generalize m7 + nq = m7 at *
        have HOWN : Hid ((wr.drewN m7).ownsRow (w.heap.size + 1) 100 6 (.slice (some ⟨g, 0, none⟩) (k + 1) c) (k + 1) (ndRow (A ++ [l]))) := kH HOWN.out
        have HRES : Hid (BlkN (wr.drewN m7) w.heap.size Nd.zero) := kH HRES.out
        have HONL : Hid (Onl b w (wr.drewN m7)) := kH HONL.out.drewN
        have HTW2 : Hid (TreesN (wr.drewN m7) (Free (w.heap.size + 1) (.slice (some ⟨g, 0, none⟩) (k + 1) c)) (ts0 ++ [t]) (A ++ [l])) := kH (TreesN.kept (w := wr) (w' := wr.drewN m7) (fun _ _ _ => rfl) (fun _ h _ => h) _ _ HTW2.out)
        have HR : Hid (Rg (wr.drewN m7) b s q op 0 0) := kH HR.out
        go_wp2_with fail
        generalize wr.drewN m7 = w6 at *
        refine wp_region_L (st := [9]) (S := fun w' => w'.ownsRow (w.heap.size + 1) 100 6 (.slice (some ⟨g, 0, none⟩) (k + 1) c) (k + 1) (ndRow (A ++ [l]))) (by kernel_rfl) (HOWN.out) (fun hHeld => ?_)
        refine tkL 0 (v := ?_) rfl ?_ ?_
        rotate_left
        ·
         (intro w hSw; (obtain ⟨⟨q0, q1, q2, q3, q4, q5⟩, _⟩ := last_cells HK.out.1 hSw); go_simp; try with_reducible rfl)
        try simp only [nrm]
        refine tkL 1 (v := ?_) rfl ?_ ?_
        rotate_left
        ·
         (intro w hSw; (obtain ⟨⟨q0, q1, q2, q3, q4, q5⟩, _⟩ := last_cells HK.out.1 hSw); go_simp; try with_reducible rfl)
        try simp only [nrm]
        refine tkL 3 (v := ?_) rfl ?_ ?_
        rotate_left
        ·
         (intro w hSw; (obtain ⟨⟨q0, q1, q2, q3, q4, q5⟩, _⟩ := last_cells HK.out.1 hSw); go_simp; try with_reducible rfl)
        try simp only [nrm]
        refine tkL 4 (v := ?_) rfl ?_ ?_
        rotate_left
        ·
         (intro w hSw; (obtain ⟨⟨q0, q1, q2, q3, q4, q5⟩, _⟩ := last_cells HK.out.1 hSw); go_simp; try with_reducible rfl)
        try simp only [nrm]
        refine tkL 5 (v := ?_) rfl ?_ ?_
        rotate_left
        ·
         (intro w hSw; (obtain ⟨⟨q0, q1, q2, q3, q4, q5⟩, _⟩ := last_cells HK.out.1 hSw); go_simp; try with_reducible rfl)
        try simp only [nrm]
        refine wpAnyL_ready (rs := [2, 6]) (by kernel_rfl) (by simp) ?_
        refine AllReadyL.cons (o := _) rfl (fun K hK => ?_) (AllReadyL.cons (o := _) rfl (fun K hK => ?_) AllReadyL.nil)
        ·
         go_simp
         refine (OF.out _).mono ?_
         rintro e w8 ⟨rfl, rfl⟩
         refine hK.out _ _ (hHeld) (fun hHeld => ?_)
         clear hK K
         try simp only [nrm]
         refine rdL 6 rfl (fun K hK => ?_)
         go_simp
         refine hK.out _ _ (World.ownsRow.alloc hHeld _) (fun hHeld => ?_)
         clear hK K
         try simp only [nrm]
         refine tkL 7 (v := ?_) rfl ?_ ?_
         rotate_left
         ·
          (intro w hSw; (obtain ⟨⟨q0, q1, q2, q3, q4, q5⟩, _⟩ := last_cells HK.out.1 hSw); go_simp; try with_reducible rfl)
         try simp only [nrm]
         refine tkL 8 (v := ?_) rfl ?_ ?_
         rotate_left
         ·
          (intro w hSw; (obtain ⟨⟨q0, q1, q2, q3, q4, q5⟩, _⟩ := last_cells HK.out.1 hSw); go_simp; try with_reducible rfl)
         try simp only [nrm]
         obtain ⟨⟨q0, q1, q2, q3, q4, q5⟩, p0, p1, p2, p3, p4, p5⟩ := last_cells HK.out.1 HOWN.out
         have hgl : g < w6.heap.size := (rg_own_base HOWN.out g rfl).2
         refine wpAnyL_ready (rs := [9]) (by kernel_rfl) (by simp) ?_
         refine AllReadyL.store (o := _) rfl (by decide) (by decide) (fun K hK => ?_) AllReadyL.nil
         go_simp
         refine hK.out _ _ ?_
         clear hK K
         try simp only [nrm]
         refine wpAnyL_done (by kernel_rfl) ?_ _
         clear q0 q1 q2 q3 q4 q5 p0 p1 p2 p3 p4 p5 hHeld hgl
         have HP := kH (part_sgn (w0 := w) (wr := w6) (b := b) (n0 := w.heap.size + 1) (g := g) (c := c) (m := k + 1) (A := A) (l := l) ov HOWN.out HRES.out HONL.out HB2.out rfl ((((((((w6.setCell ⟨g, k * 6, none⟩ (.int .i64 (ov : Int))).setCell ⟨g, k * 6 + 1, none⟩ (.int .u64 0)).setCell ⟨g, k * 6 + 2, none⟩ (.int .u64 0)).setCell ⟨g, k * 6 + 3, none⟩ (.int .u64 0)).setCell ⟨g, k * 6 + 4, none⟩ (.int .u64 0)).setCell ⟨g, k * 6 + 5, none⟩ (.slice (some ⟨w6.heap.size, 0, none⟩) 1 1)).alloc (.cells #[.int .i64 l.op, .int .u64 l.set.a, .int .u64 l.set.b, .int .u64 l.set.c, .int .u64 l.set.d, .slice l.kp l.kn l.kc] 100)).drew) (by unfold putK; rw [HK.out.1]; rfl))
         generalize (((((((w6.setCell ⟨g, k * 6, none⟩ (.int .i64 (ov : Int))).setCell ⟨g, k * 6 + 1, none⟩ (.int .u64 0)).setCell ⟨g, k * 6 + 2, none⟩ (.int .u64 0)).setCell ⟨g, k * 6 + 3, none⟩ (.int .u64 0)).setCell ⟨g, k * 6 + 4, none⟩ (.int .u64 0)).setCell ⟨g, k * 6 + 5, none⟩ (.slice (some ⟨w6.heap.size, 0, none⟩) 1 1)).alloc (.cells #[.int .i64 l.op, .int .u64 l.set.a, .int .u64 l.set.b, .int .u64 l.set.c, .int .u64 l.set.d, .slice l.kp l.kn l.kc] 100)).drew = w9 at *
         have HR9 := kH (HP.out.2.2.2.1 s q op 0 0 HR.out)
         obtain ⟨c0, c1, c2, c3, c4, f1, f2, f3, f4⟩ := HR9.out.cells
         go_wp2_with fail
         go_roundg (gk - 1)
         case measure => have := HFG.out.1; omega
         case rel =>
          have hk2 := HK.out.2 ⟨(ov : Int), W4.zero, some ⟨w6.heap.size, 0, none⟩, 1, 1⟩
          have hq := HP.out
          refine ⟨some ⟨g, 0, none⟩, c, A ++ [⟨(ov : Int), W4.zero, some ⟨w6.heap.size, 0, none⟩, 1, 1⟩], by rw [hk2], kH ?_⟩
          rw [hk2]
          refine ⟨?_, ?_, ?_, hq.2.2.1.setCell 1 _, .inl ⟨f', r, ts0 ++ [.mk ov W4.zero [t]], H2.out.1, HFG.out.2, by have := HFG.out.1; omega, HXE.out, ?_, ?_⟩⟩
          ·
           rw [hk2]; exact rg_own_kept hq.1 (fun g' hg' => Below.heap_setCell _ _ _ g' (fun e => by have := (rg_own_base hq.1 g' hg').1; have h2 := HB2.out; change g' = b at e; omega))
          ·
           rw [hk2]; have := HFG.out.1; omega
          ·
           exact hq.2.1.setNew (p := ⟨b, 1, none⟩) HB.out _
          ·
           rw [H2.out.2]; exact HR9.out.setP (q + 1)
          ·
           exact TreesN.kept (fun k' hk' _ => Below.heap_setCell _ _ _ k' (fun e => by have := hk'.1; have h2 := HB2.out; change k' = b at e; omega)) (fun _ h _ => h) _ _ (hq.2.2.2.2 ts0 t HTW2.out)
        ·
         go_simp
         refine hK.out _ _ (World.ownsRow.alloc hHeld _) (fun hHeld => ?_)
         clear hK K
         try simp only [nrm]
         refine rdL 2 rfl (fun K hK => ?_)
         go_simp
         refine (OF.out _).mono ?_
         rintro e w8 ⟨rfl, rfl⟩
         refine hK.out _ _ (hHeld) (fun hHeld => ?_)
         clear hK K
         try simp only [nrm]
         refine tkL 7 (v := ?_) rfl ?_ ?_
         rotate_left
         ·
          (intro w hSw; (obtain ⟨⟨q0, q1, q2, q3, q4, q5⟩, _⟩ := last_cells HK.out.1 hSw); go_simp; try with_reducible rfl)
         try simp only [nrm]
         refine tkL 8 (v := ?_) rfl ?_ ?_
         rotate_left
         ·
          (intro w hSw; (obtain ⟨⟨q0, q1, q2, q3, q4, q5⟩, _⟩ := last_cells HK.out.1 hSw); go_simp; try with_reducible rfl)
         try simp only [nrm]
         obtain ⟨⟨q0, q1, q2, q3, q4, q5⟩, p0, p1, p2, p3, p4, p5⟩ := last_cells HK.out.1 HOWN.out
         have hgl : g < w6.heap.size := (rg_own_base HOWN.out g rfl).2
         refine wpAnyL_ready (rs := [9]) (by kernel_rfl) (by simp) ?_
         refine AllReadyL.store (o := _) rfl (by decide) (by decide) (fun K hK => ?_) AllReadyL.nil
         go_simp
         refine hK.out _ _ ?_
         clear hK K
         try simp only [nrm]
         refine wpAnyL_done (by kernel_rfl) ?_ _
         clear q0 q1 q2 q3 q4 q5 p0 p1 p2 p3 p4 p5 hHeld hgl
         have HP := kH (part_sgn (w0 := w) (wr := w6) (b := b) (n0 := w.heap.size + 1) (g := g) (c := c) (m := k + 1) (A := A) (l := l) ov HOWN.out HRES.out HONL.out HB2.out rfl ((((((((w6.setCell ⟨g, k * 6, none⟩ (.int .i64 (ov : Int))).setCell ⟨g, k * 6 + 1, none⟩ (.int .u64 0)).setCell ⟨g, k * 6 + 2, none⟩ (.int .u64 0)).setCell ⟨g, k * 6 + 3, none⟩ (.int .u64 0)).setCell ⟨g, k * 6 + 4, none⟩ (.int .u64 0)).setCell ⟨g, k * 6 + 5, none⟩ (.slice (some ⟨w6.heap.size, 0, none⟩) 1 1)).alloc (.cells #[.int .i64 l.op, .int .u64 l.set.a, .int .u64 l.set.b, .int .u64 l.set.c, .int .u64 l.set.d, .slice l.kp l.kn l.kc] 100)).drew) (by unfold putK; rw [HK.out.1]; rfl))
         generalize (((((((w6.setCell ⟨g, k * 6, none⟩ (.int .i64 (ov : Int))).setCell ⟨g, k * 6 + 1, none⟩ (.int .u64 0)).setCell ⟨g, k * 6 + 2, none⟩ (.int .u64 0)).setCell ⟨g, k * 6 + 3, none⟩ (.int .u64 0)).setCell ⟨g, k * 6 + 4, none⟩ (.int .u64 0)).setCell ⟨g, k * 6 + 5, none⟩ (.slice (some ⟨w6.heap.size, 0, none⟩) 1 1)).alloc (.cells #[.int .i64 l.op, .int .u64 l.set.a, .int .u64 l.set.b, .int .u64 l.set.c, .int .u64 l.set.d, .slice l.kp l.kn l.kc] 100)).drew = w9 at *
         have HR9 := kH (HP.out.2.2.2.1 s q op 0 0 HR.out)
         obtain ⟨c0, c1, c2, c3, c4, f1, f2, f3, f4⟩ := HR9.out.cells
         go_wp2_with fail
         go_roundg (gk - 1)
         case measure => have := HFG.out.1; omega
         case rel =>
          have hk2 := HK.out.2 ⟨(ov : Int), W4.zero, some ⟨w6.heap.size, 0, none⟩, 1, 1⟩
          have hq := HP.out
          refine ⟨some ⟨g, 0, none⟩, c, A ++ [⟨(ov : Int), W4.zero, some ⟨w6.heap.size, 0, none⟩, 1, 1⟩], by rw [hk2], kH ?_⟩
          rw [hk2]
          refine ⟨?_, ?_, ?_, hq.2.2.1.setCell 1 _, .inl ⟨f', r, ts0 ++ [.mk ov W4.zero [t]], H2.out.1, HFG.out.2, by have := HFG.out.1; omega, HXE.out, ?_, ?_⟩⟩
          ·
           rw [hk2]; exact rg_own_kept hq.1 (fun g' hg' => Below.heap_setCell _ _ _ g' (fun e => by have := (rg_own_base hq.1 g' hg').1; have h2 := HB2.out; change g' = b at e; omega))
          ·
           rw [hk2]; have := HFG.out.1; omega
          ·
           exact hq.2.1.setNew (p := ⟨b, 1, none⟩) HB.out _
          ·
           rw [H2.out.2]; exact HR9.out.setP (q + 1)
          ·
           exact TreesN.kept (fun k' hk' _ => Below.heap_setCell _ _ _ k' (fun e => by have := hk'.1; have h2 := HB2.out; change k' = b at e; omega)) (fun _ h _ => h) _ _ (hq.2.2.2.2 ts0 t HTW2.out)
     ·
      have hsg2 : ¬ (x = 42 ∨ x = 43 ∨ x = 63) := fun h => hsg (by unfold signB; rcases h with h | h | h <;> rw [h] <;> rfl)
      have n42 : ¬ x.toNat = 42 := fun e => hsg2 (.inl (UInt8.toNat_inj.1 e))
      have n43 : ¬ x.toNat = 43 := fun e => hsg2 (.inr (.inl (UInt8.toNat_inj.1 e)))
      have n63 : ¬ x.toNat = 63 := fun e => hsg2 (.inr (.inr (UInt8.toNat_inj.1 e)))
      have g42 : ((x.toNat : Int) == 42) = false := by rw [Bool.eq_false_iff]; simp; omega
      have g43 : ((x.toNat : Int) == 43) = false := by rw [Bool.eq_false_iff]; simp; omega
      have g63 : ((x.toNat : Int) == 63) = false := by rw [Bool.eq_false_iff]; simp; omega
      have TH := kH fun W (H : Rg W b s q op 0 0) => rthing_any b s op G x r W (by have e := HSX.out.2; rw [List.length_cons] at e; rw [e]; exact H) HSX.out.1 (by omega) HGG.out
      have hstep : partLoop withW notW orW G (f' + 1) (x :: r) ts = match thingR withW notW orW G (x :: r) with
        | .error y => .error y
        | .ok (t, r2) => partLoop withW notW orW G f' r2 (ts ++ [t]) := by
       conv => lhs; unfold partLoop
       simp only
       rw [if_neg hbr, if_neg hsg]
       cases thingR withW notW orW G (x :: r) with
       | error y => rfl
       | ok y => rfl
      have hXL := HXL.out
      rw [hstep] at hXL
      cases hth : thingR withW notW orW G (x :: r) with
      | error y =>
       obtain ⟨bd, er⟩ := y
       rw [hth] at hXL TH
       have HXE := kH hXL.symm
       clear HXL hXL hstep hth hsg2 hsg hbr hx124 hx41
       go_wp2_with fail
       refine (DN.out _ HR.out).mono ?_
       rintro e w7 ⟨rfl, m7, rfl⟩
       obtain ⟨c0, c1, c2, c3, c4, f1, f2, f3, f4⟩ := HR.out.cells
       go_wp2_with fail
       go_quiet (fail)
       try rw [World.drewN_drewN]
       clear c0 c1 c2 c3 c4 f1 f2 f3 f4
       generalize m7 + nq = m7 at *
       have HOWN6 : Hid ((wr.drewN m7).ownsRow (w.heap.size + 1) 100 6 (.slice p nds.length c) nds.length (ndRow nds)) := kH HS.out.own
       have HRES6 : Hid (BlkN (wr.drewN m7) w.heap.size Nd.zero) := kH HS.out.res
       have HONL6 : Hid (Onl b w (wr.drewN m7)) := kH HS.out.onl.drewN
       have HTW6 : Hid (TreesN (wr.drewN m7) (Free (w.heap.size + 1) (.slice p nds.length c)) ts nds) := kH (TreesN.kept (w := wr) (w' := wr.drewN m7) (fun _ _ _ => rfl) (fun _ h _ => h) _ _ HTW.out)
       have HSL := kH HS.out.len
       have hnl : nds.length ≤ 20000 := by have := HS.out.len; omega
       have HR : Hid (Rg (wr.drewN m7) b s q op 0 0) := kH HR.out
       clear HS
       go_wp2_with fail
       generalize wr.drewN m7 = w6 at *
       refine (TH.out w6 HR.out).mono ?_
       rintro e w8 ⟨her, hbd, v, rfl, ⟨nd, rfl⟩, hr8, o8⟩
       have HE := kH (And.intro her hbd)
       have HR8 := kH hr8
       have HO8 := kH o8
       have HOWN8 : Hid (w8.ownsRow (w.heap.size + 1) 100 6 (.slice p nds.length c) nds.length (ndRow nds)) := kH (rg_own_kept HOWN6.out (fun g hg => o8.block g (rg_own_base HOWN6.out g hg).2 (by have := (rg_own_base HOWN6.out g hg).1; have := HB2.out; omega)))
       have hw8 : w.heap.size + 1 ≤ w8.heap.size := by have := HRES6.out.lt; have := o8.size; omega
       clear hr8 o8 her hbd
       unfold Nd.val
       go_wp2_with (at_builtin; refine wpList_append_own_at _ rfl (.tmp 19) (.tmp 22) 98 rfl (w.heap.size + 1) 100 i0 (.agg #[.int .i64 0, .int .u64 0, .int .u64 0, .int .u64 0, .int .u64 0, .slice none 0 0]) 6 64 Tryz.underlying98 hi hz0 hz1 hz2 rfl (by decide) (.slice p nds.length c) nds.length (ndRow nds) rfl (HOWN8.out.alloc _) ⟨w8.heap.size, 0, none⟩ 1 1 (Nd.vals nd) rfl rfl ?c1 ?c2 ?c3 ?c4 ?c5 ?_)
       case c1 => exact nd_new w8 nd
       case c2 => simp [Nd.vals, Value.oneCell']
       case c3 => unfold maxLen; omega
       case c4 => omega
       case c5 => simp; omega
       intro v9 w9 hown9 hgrow9 _ hat9
       obtain ⟨g9, c9, rfl, hc9⟩ := rg_own_succ hown9
       have hP := part_app (w0 := w) (wr := w6) (n0 := w.heap.size + 1) (nd := nd) HOWN6.out HRES6.out HONL6.out HO8.out HB2.out rfl hgrow9 hat9
       have hR9 := hP.2.2.1 _ _ _ _ _ HR8.out
       have HP := kH (And.intro hP (And.intro hR9 hown9))
       clear hP hR9 hown9 hgrow9 hat9
       go_wp2_with fail
       go_roundg (gk - 1)
       case measure => have := HFG.out.1; omega
       case rel =>
        have hl9 : (nds ++ [nd]).length = nds.length + 1 := by simp
        refine ⟨some ⟨g9, 0, none⟩, c9, nds ++ [nd], by rw [hl9], kH ?_⟩
        rw [hl9]
        refine ⟨?_, ?_, HP.out.1.1, HP.out.1.2.1, .inr ⟨bd, er, HXE.out, HE.out.1, HE.out.2, HP.out.2.1⟩⟩
        ·
         rw [hl9, ndRow_append]; simpa [ndRow] using HP.out.2.2
        ·
         rw [hl9]; have := HFG.out.1; have := HSL.out; omega
      | ok y =>
       obtain ⟨t, r2⟩ := y
       rw [hth] at hXL TH
       have HXE := kH hXL
       have hlr := rg_thingR_len hth HGL.out
       clear HXL hXL hstep hth hsg2 hsg hbr hx124 hx41
       go_wp2_with fail
       refine (DN.out _ HR.out).mono ?_
       rintro e w7 ⟨rfl, m7, rfl⟩
       obtain ⟨c0, c1, c2, c3, c4, f1, f2, f3, f4⟩ := HR.out.cells
       go_wp2_with fail
       go_quiet (fail)
       try rw [World.drewN_drewN]
       clear c0 c1 c2 c3 c4 f1 f2 f3 f4
       generalize m7 + nq = m7 at *
       have HOWN6 : Hid ((wr.drewN m7).ownsRow (w.heap.size + 1) 100 6 (.slice p nds.length c) nds.length (ndRow nds)) := kH HS.out.own
       have HRES6 : Hid (BlkN (wr.drewN m7) w.heap.size Nd.zero) := kH HS.out.res
       have HONL6 : Hid (Onl b w (wr.drewN m7)) := kH HS.out.onl.drewN
       have HTW6 : Hid (TreesN (wr.drewN m7) (Free (w.heap.size + 1) (.slice p nds.length c)) ts nds) := kH (TreesN.kept (w := wr) (w' := wr.drewN m7) (fun _ _ _ => rfl) (fun _ h _ => h) _ _ HTW.out)
       have HSL := kH HS.out.len
       have hnl : nds.length ≤ 20000 := by have := HS.out.len; omega
       have HR : Hid (Rg (wr.drewN m7) b s q op 0 0) := kH HR.out
       clear HS
       go_wp2_with fail
       generalize wr.drewN m7 = w6 at *
       refine (TH.out w6 HR.out).mono ?_
       rintro e w8 ⟨hs8, v, rfl, ⟨nd, rfl, ht8⟩, hr8, o8⟩
       have HE := kH hs8
       have HT8 := kH ht8
       have HR8 := kH hr8
       have HO8 := kH o8
       have HOWN8 : Hid (w8.ownsRow (w.heap.size + 1) 100 6 (.slice p nds.length c) nds.length (ndRow nds)) := kH (rg_own_kept HOWN6.out (fun g hg => o8.block g (rg_own_base HOWN6.out g hg).2 (by have := (rg_own_base HOWN6.out g hg).1; have := HB2.out; omega)))
       have hw8 : w.heap.size + 1 ≤ w8.heap.size := by have := HRES6.out.lt; have := o8.size; omega
       clear hr8 o8 hs8 ht8
       unfold Nd.val
       go_wp2_with (at_builtin; refine wpList_append_own_at _ rfl (.tmp 19) (.tmp 22) 98 rfl (w.heap.size + 1) 100 i0 (.agg #[.int .i64 0, .int .u64 0, .int .u64 0, .int .u64 0, .int .u64 0, .slice none 0 0]) 6 64 Tryz.underlying98 hi hz0 hz1 hz2 rfl (by decide) (.slice p nds.length c) nds.length (ndRow nds) rfl (HOWN8.out.alloc _) ⟨w8.heap.size, 0, none⟩ 1 1 (Nd.vals nd) rfl rfl ?c1 ?c2 ?c3 ?c4 ?c5 ?_)
       case c1 => exact nd_new w8 nd
       case c2 => simp [Nd.vals, Value.oneCell']
       case c3 => unfold maxLen; omega
       case c4 => omega
       case c5 => simp; omega
       intro v9 w9 hown9 hgrow9 _ hat9
       obtain ⟨g9, c9, rfl, hc9⟩ := rg_own_succ hown9
       have hP := part_app (w0 := w) (wr := w6) (n0 := w.heap.size + 1) (nd := nd) HOWN6.out HRES6.out HONL6.out HO8.out HB2.out rfl hgrow9 hat9
       have hR9 := hP.2.2.1 _ _ _ _ _ HR8.out
       have hT9 := hP.2.2.2 ts t HTW6.out HT8.out
       have HP := kH (And.intro hP (And.intro hR9 (And.intro hown9 hT9)))
       clear hP hR9 hown9 hgrow9 hat9 hT9
       go_wp2_with fail
       go_roundg (gk - 1)
       case measure => have := HFG.out.1; omega
       case rel =>
        have hl9 : (nds ++ [nd]).length = nds.length + 1 := by simp
        refine ⟨some ⟨g9, 0, none⟩, c9, nds ++ [nd], by rw [hl9], kH ?_⟩
        rw [hl9]
        refine ⟨?_, ?_, HP.out.1.1, HP.out.1.2.1, .inl ⟨f', r2, ts ++ [t], HE.out, by have := HFG.out.2; omega, by have := HFG.out.1; omega, HXE.out, HP.out.2.1, HP.out.2.2.2⟩⟩
        ·
         rw [hl9, ndRow_append]; simpa [ndRow] using HP.out.2.2.1
        ·
         rw [hl9]; have := HFG.out.1; have := HSL.out; omega
  ·
   have HR := kH hR
   have HE := kH (And.intro her hbd)
   have HXE := kH hXe
   clear hXe her hbd hR
   go_wp2_with fail
   refine (DY.out _ _ _ HR.out).mono ?_
   rintro e w7 ⟨rfl, m7, rfl⟩
   have HOWN : Hid ((wr.drewN m7).ownsRow 0 100 6 (.slice p nds.length c) nds.length (ndRow nds)) := kH (rg_own_less HS.out.own (Nat.zero_le _))
   have HRES : Hid (BlkN (wr.drewN m7) w.heap.size Nd.zero) := kH HS.out.res
   have HONL : Hid (Onl b w (wr.drewN m7)) := kH HS.out.onl.drewN
   have HLN : Hid (nds.length ≤ 100000) := kH (by have := HS.out.len; omega)
   have HRG : Hid (Rg (wr.drewN m7) b s s.size op (s.size - bd) er) := kH HR.out
   go_wp2_with fail
   refine (GA.out p c nds _ HOWN.out HLN.out).mono ?_
   rintro e w9 ⟨rfl, hb9⟩
   generalize gatherN ((2 : Nat) : Int) p nds.length c nds = nd at *
   have HR9 := kH (HRG.out.below hb9)
   have HO9 := kH (HONL.out.trans (Onl.of_below hb9 (Nat.le_refl _)))
   have HN9 := kH (HRES.out.below hb9)
   clear hb9
   unfold Nd.val
   obtain ⟨d0, d1, d2, d3, d4, d5, k0, k1, k2, k3, k4, k5⟩ := HN9.out.cells
   go_wp2_with fail
   try rw [Exit.noGoto_ret]
   exact bodyPost_ret (v := nd.val) (by simp [results, Tryz.results133, go_sem, Nd.val, d0, d1, d2, d3, d4, d5]) rfl (by
    have hR := HR9.out.put6 (fun e => HB.out e.symm) nd
    have hO := HO9.out.put6 (Nat.le_refl _) nd
    rw [HXE.out]
    exact ⟨HE.out.1, HE.out.2, _, rfl, ⟨_, rfl⟩, hR, hO⟩)
end Go.Proofs.YtmbfdkiejneheaaGreatDoor
