/-
  A TREE LAID ANEW IN ONE ROW: the row, what stands in it while the copy is under way, the copy as a tree.
-/
import Derived.Test.YtgahamppfdhnaaaDoorAsSame
import Derived.Deep.AppendSrc
import Derived.Deep.Upon
namespace Go.Proofs.YtgahamppfdhnaaaDoor
open Go.RowKit

/-- A row of nodes with room for S. -/
structure Lay (w : World) (g S : Nat) (nds : List Nd) : Prop where
  blk : ∃ cur : Array Value, w.heap[g]? = some (.cells cur 25 (0, 0)) ∧ cur.size = S * 4 ∧ cur.toList.take (nds.length * 4) = ndRow nds
  le : nds.length ≤ S
section
variable {w w' : World} {g S : Nat} {nds : List Nd}
theorem Lay.lt (h : Lay w g S nds) : g < w.heap.size := by obtain ⟨⟨cur, h1, _⟩, _⟩ := h; exact as_lt h1
theorem Lay.kept (h : Lay w g S nds) (hk : w'.heap[g]? = w.heap[g]?) : Lay w' g S nds := by
  obtain ⟨⟨cur, h1, h2⟩, h3⟩ := h
  exact ⟨⟨cur, hk.trans h1, h2⟩, h3⟩
theorem Lay.cell (h : Lay w g S nds) {o : Nat} (ho : o < nds.length * 4) : w.cell? ⟨g, o, none⟩ = (ndRow nds)[o]? := by
  obtain ⟨⟨cur, h1, h2, h3⟩, _⟩ := h
  rw [as_cell h1, ← h3, List.getElem?_take_of_lt ho, Array.getElem?_toList]
theorem Lay.frozen (h : Lay w g S nds) (o : Nat) : w.frozen? ⟨g, o, none⟩ = false := by
  obtain ⟨⟨cur, h1, _⟩, _⟩ := h
  exact as_frozen h1
theorem Lay.there (h : Lay w g S nds) {o : Nat} (ho : o < S * 4) : (w.cell? ⟨g, o, none⟩).isSome = true := by
  obtain ⟨⟨cur, h1, h2, _⟩, _⟩ := h
  rw [as_cell h1]
  simp [h2, ho]
theorem Lay.node (h : Lay w g S nds) {j : Nat} (hj : j < nds.length) : NodeAt w g (j * 4) nds[j] := by
  have q : ∀ r, r < 4 → w.cell? ⟨g, j * 4 + r, none⟩ = nds[j].vals[r]? := fun r hr => by
    rw [h.cell (by omega), ndRow_get _ j r hj hr]
  exact ⟨q 0 (by omega), q 1 (by omega), q 2 (by omega), q 3 (by omega)⟩
theorem Lay.setRow (h : Lay w g S nds) (o : Nat) (v : Value) {ms : List Nd} (hl : ms.length = nds.length) (he : (ndRow nds).set o v = ndRow ms) : Lay (w.setCell ⟨g, o, none⟩ v) g S ms := by
  obtain ⟨⟨cur, h1, h2, h3⟩, h4⟩ := h
  refine ⟨⟨cur.setIfInBounds o v, as_setCell_block h1 v, by simpa using h2, ?_⟩, by omega⟩
  rw [Array.toList_setIfInBounds, hl, List.take_set, h3, he]
theorem set_self : ∀ {l : List Value} {o : Nat} {v : Value}, l[o]? = some v → l.set o v = l
  | [], _, _, h => by simp at h
  | x :: l, 0, v, h => by simp at h; subst h; rfl
  | x :: l, o + 1, v, h => by
    have := set_self (l := l) (o := o) (v := v) (by simpa using h)
    simp [this]
theorem Lay.same (h : Lay w g S nds) (o : Nat) (v : Value) (he : (ndRow nds)[o]? = some v) : Lay (w.setCell ⟨g, o, none⟩ v) g S nds := h.setRow o v rfl (set_self he)
theorem ndRow_setK : ∀ (l : List Nd) (j : Nat) (p : Option Addr) (n c : Nat), (h : j < l.length) → (ndRow l).set (j * 4 + 3) (.slice p n c) = ndRow (l.set j { l[j] with kp := p, kn := n, kc := c })
  | t :: l, 0, p, n, c, _ => by simp [ndRow, Nd.vals]
  | t :: l, j + 1, p, n, c, h => by
    have ih := ndRow_setK l j p n c (by simpa using h)
    show (t.vals ++ ndRow l).set ((j + 1) * 4 + 3) _ = t.vals ++ ndRow (l.set j _)
    rw [List.set_append_right _ _ (by show 4 ≤ _; omega)]
    simp only [List.getElem_cons_succ]
    rw [← ih]
    congr 2
    show (j + 1) * 4 + 3 - 4 = _
    omega
theorem Lay.kid (h : Lay w g S nds) {j : Nat} (hj : j < nds.length) (p : Option Addr) (n c : Nat) : Lay (w.setCell ⟨g, j * 4 + 3, none⟩ (.slice p n c)) g S (nds.set j { nds[j] with kp := p, kn := n, kc := c }) :=
  h.setRow _ _ (by simp) (ndRow_setK nds j p n c hj)
theorem setCells_block {b : Nat} {e : TypeId} {fz : Nat × Nat} : ∀ (vs : List Value) (o : Nat) (w : World) (cur : Array Value), w.heap[b]? = some (.cells cur e fz) → o + vs.length ≤ cur.size →
    ∃ cur' : Array Value, (w.setCells b o vs).heap[b]? = some (.cells cur' e fz) ∧ cur'.size = cur.size ∧ cur'.toList.take (o + vs.length) = cur.toList.take o ++ vs
  | [], o, w, cur, h, _ => ⟨cur, h, rfl, by simp⟩
  | v :: r, o, w, cur, h, hl => by
    have h1 := as_setCell_block (i := o) h v
    obtain ⟨cur', k1, k2, k3⟩ := setCells_block r (o + 1) _ _ h1 (by simp at hl ⊢; omega)
    refine ⟨cur', k1, by rw [k2]; simp, ?_⟩
    have hlo : o < cur.toList.length := by simp at hl ⊢; omega
    rw [show o + (v :: r).length = o + 1 + r.length from by simp; omega, k3, Array.toList_setIfInBounds]
    have e : (cur.toList.set o v).take (o + 1) = cur.toList.take o ++ [v] := by
      rw [List.take_succ_eq_append_getElem (by simpa using hlo), List.take_set_of_le (Nat.le_refl _)]
      simp
    rw [e]
    simp
theorem Lay.app (h : Lay w g S nds) (ms : List Nd) (hm : nds.length + ms.length ≤ S) : Lay (w.setCells g (nds.length * 4) (ndRow ms)) g S (nds ++ ms) := by
  obtain ⟨⟨cur, h1, h2, h3⟩, h4⟩ := h
  obtain ⟨cur', k1, k2, k3⟩ := setCells_block (ndRow ms) (nds.length * 4) w cur h1 (by rw [ndRow_len]; omega)
  refine ⟨⟨cur', k1, by omega, ?_⟩, by rw [List.length_append]; exact hm⟩
  rw [ndRow_len] at k3
  rw [List.length_append, show (nds.length + ms.length) * 4 = nds.length * 4 + ms.length * 4 from by omega, k3, h3, ndRow_append]
end
/-- A node of the copy that is done: its kids lie further on. -/
def Done (g : Nat) (X : List AT) (a : AT) (nd : Nd) : Prop := nd.op = a.nd.op ∧ nd.tx = a.nd.tx ∧ nd.pl = a.nd.pl ∧ nd.kn = a.ks.length ∧ (a.ks = [] ∨ ∃ f, nd.kp = some ⟨g, f * 4, none⟩ ∧ ∀ (r : Nat) (h : r < a.ks.length), X[f + r]? = some a.ks[r])
theorem Done.more {g : Nat} {X Y : List AT} {a : AT} {nd : Nd} (h : Done g X a nd) : Done g (X ++ Y) a nd := by
  obtain ⟨h1, h2, h3, h4, h5⟩ := h
  refine ⟨h1, h2, h3, h4, h5.imp id fun ⟨f, k1, k2⟩ => ⟨f, k1, fun r hr => ?_⟩⟩
  have := k2 r hr
  have hl : f + r < X.length := (List.getElem?_eq_some_iff.1 this).1
  rw [List.getElem?_append_left hl]; exact this
/-- How many nodes are yet to come. -/
def pend (X : List AT) : Nat := (X.map fun a => sizeL (erL a.ks)).sum
theorem pend_append (X Y : List AT) : pend (X ++ Y) = pend X + pend Y := by simp [pend]
theorem pend_kids : ∀ ks : List AT, ks.length + pend ks = sizeL (erL ks)
  | [] => by simp [pend, erL, sizeL]
  | a :: l => by
    have := pend_kids l
    have e : (er a).size = 1 + sizeL (erL a.ks) := by cases a; rw [er, T.size]; rfl
    rw [erL, sizeL, e, List.length_cons]
    show l.length + 1 + ((sizeL (erL a.ks)) + pend l) = _
    omega
/-- The copy under way: behind i nodes. -/
structure ClSt (B : Nat → Prop) (g S i : Nat) (X : List AT) (nds : List Nd) (w : World) : Prop where
  lay : Lay w g S nds
  len : nds.length = X.length
  done : ∀ (j : Nat), j < i → ∀ (h1 : j < nds.length) (h2 : j < X.length), Done g X X[j] nds[j]
  todo : ∀ (j : Nat), i ≤ j → ∀ (h1 : j < nds.length) (h2 : j < X.length), nds[j] = X[j].nd
  src : ∀ a ∈ X, Kd a.nd.kp a.ks ∧ MemL w B a.ks
  cnt : X.length + pend (X.drop i) = S
  le : i ≤ X.length
theorem ClSt.kept {B : Nat → Prop} {g S i : Nat} {X : List AT} {nds : List Nd} {w w' : World} (h : ClSt B g S i X nds w) (hk : ∀ k, (k = g ∨ B k) → k < w.heap.size → w'.heap[k]? = w.heap[k]?) : ClSt B g S i X nds w' :=
  ⟨h.lay.kept (hk g (.inl rfl) h.lay.lt), h.len, h.done, h.todo, fun a ha => ⟨(h.src a ha).1, MemL.kept (fun k hb hl => hk k (.inr hb) hl) (fun _ h _ => h) _ (h.src a ha).2⟩, h.cnt, h.le⟩
section
variable {B : Nat → Prop} {g S : Nat} {X : List AT} {nds : List Nd} {w : World}
mutual
theorem ClSt.build (h : ClSt B g S X.length X nds w) : ∀ (a : AT) (j : Nat), X[j]? = some a → ∃ a' : AT, a'.g = g ∧ a'.o = j * 4 ∧ er a' = er a ∧ Mem w (fun k => k = g) a' ∧ ∃ hj : j < nds.length, a'.nd = nds[j]
  | .mk op tx pl kp kc g0 o0 ks, j, hj => by
    have hjX : j < X.length := (List.getElem?_eq_some_iff.1 hj).1
    have hjn : j < nds.length := by rw [h.len]; exact hjX
    have hd := h.done j hjX hjn hjX
    rw [(List.getElem?_eq_some_iff.1 hj).2] at hd
    obtain ⟨d1, d2, d3, d4, d5⟩ := hd
    simp only [AT.nd, AT.ks] at d1 d2 d3 d4 d5
    have hn := h.lay.node hjn
    generalize hx : nds[j] = nd at *
    obtain ⟨p1, p2, p3, p4, p5, p6⟩ := nd
    simp only at d1 d2 d3 d4 d5
    subst d1 d2 d3 d4
    rcases d5 with rfl | ⟨f, rfl, d6⟩
    · refine ⟨.mk p1 p2 p3 p4 p6 g (j * 4) [], rfl, rfl, by rw [er, er], Mem.iff.2 ⟨rfl, hn, .inl rfl, MemL.nil _ _⟩, hjn, ?_⟩
      rw [hx]; rfl
    · obtain ⟨ks', k1, k2, k3, k4⟩ := ClSt.buildL h ks f d6
      refine ⟨.mk p1 p2 p3 (some ⟨g, f * 4, none⟩) p6 g (j * 4) ks', rfl, rfl, by rw [er, er, k2], Mem.iff.2 ⟨rfl, ?_, .inr ⟨g, f * 4, rfl, fun i hi => ?_⟩, k3⟩, hjn, ?_⟩
      · show NodeAt w g (j * 4) ⟨p1, p2, p3, some ⟨g, f * 4, none⟩, ks'.length, p6⟩
        rw [k1]; exact hn
      · obtain ⟨q1, q2⟩ := k4 i hi
        exact ⟨q1, q2.trans (by omega)⟩
      · rw [hx]; simp [AT.nd, k1]
theorem ClSt.buildL (h : ClSt B g S X.length X nds w) : ∀ (ks : List AT) (f : Nat), (∀ (r : Nat) (h : r < ks.length), X[f + r]? = some ks[r]) → ∃ ks' : List AT, ks'.length = ks.length ∧ erL ks' = erL ks ∧ MemL w (fun k => k = g) ks' ∧ ∀ (i : Nat) (h : i < ks'.length), ks'[i].g = g ∧ ks'[i].o = (f + i) * 4
  | [], f, _ => ⟨[], rfl, rfl, MemL.nil _ _, fun i hi => by simp at hi⟩
  | a :: l, f, hf => by
    obtain ⟨a', b1, b2, b3, b4, _⟩ := ClSt.build h a f (hf 0 (by simp))
    obtain ⟨l', c1, c2, c3, c4⟩ := ClSt.buildL h l (f + 1) (fun r hr => by
      have := hf (r + 1) (by simpa using hr)
      simp only [List.getElem_cons_succ] at this
      rw [show f + 1 + r = f + (r + 1) from by omega]; exact this)
    refine ⟨a' :: l', by simp [c1], by rw [erL, erL, b3, c2], MemL.cons.2 ⟨b4, c3⟩, fun i hi => ?_⟩
    cases i with
    | zero => exact ⟨b1, b2⟩
    | succ i =>
      have := c4 i (by simpa using hi)
      simp only [List.getElem_cons_succ]
      exact ⟨this.1, by rw [this.2]; omega⟩
end
end
end Go.Proofs.YtgahamppfdhnaaaDoor
