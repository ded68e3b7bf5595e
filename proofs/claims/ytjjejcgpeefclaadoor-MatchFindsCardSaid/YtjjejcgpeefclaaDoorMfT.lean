/-
  THE DOCUMENT's TABLE of layer 10 (scriberef10) in memory: a tree's parts, and what is known of them.
-/
import Derived.Test.YtjjejcgpeefclaaDoorMq0
import Derived.Test.YtjjejcgpeefclaaDoorMtC2
import Derived.Test.YtjjejcgpeefclaaDoorMfB
import Derived.Test.YtjjejcgpeefclaaDoorMtS
import Derived.Test.YtjjejcgpeefclaaDoorMtW4
namespace Go.Proofs.YtjjejcgpeefclaaDoor
open Go.RowKit

structure RNd where
  op : Int
  set : ByteArray
  kp : Option Addr
  kn : Nat
  kc : Nat
def RNd.kids (n : RNd) : Value := .slice n.kp n.kn n.kc
def RNd.vals (n : RNd) : List Value := [.int .i64 n.op, .string n.set, .slice n.kp n.kn n.kc]
def RNd.val (n : RNd) : Value := .agg #[.int .i64 n.op, .string n.set, .slice n.kp n.kn n.kc]
def RNd.zero : RNd := ⟨0, ⟨#[]⟩, none, 0, 0⟩
def rdRow : List RNd → List Value
  | [] => []
  | t :: l => t.vals ++ rdRow l
theorem rdRow_append : ∀ (l m : List RNd), rdRow (l ++ m) = rdRow l ++ rdRow m
  | [], _ => rfl
  | t :: l, m => by show t.vals ++ rdRow (l ++ m) = _; rw [rdRow_append l m]; simp [rdRow]
theorem rdRow_one (n : RNd) : rdRow [n] = n.vals := by simp [rdRow]
theorem rdRow_len : ∀ l : List RNd, (rdRow l).length = l.length * 3
  | [] => rfl
  | t :: l => by show (t.vals ++ rdRow l).length = _; rw [List.length_append, rdRow_len l]; simp [RNd.vals]; omega
theorem rdRow_get : ∀ (l : List RNd) (i j : Nat) (h : i < l.length), j < 3 → (rdRow l)[i * 3 + j]? = l[i].vals[j]?
  | t :: l, 0, j, _, hj => by
    show (t.vals ++ rdRow l)[0 * 3 + j]? = t.vals[j]?
    rw [List.getElem?_append_left (by show 0 * 3 + j < 3; omega), show 0 * 3 + j = j from by omega]
  | t :: l, i + 1, j, h, hj => by
    show (t.vals ++ rdRow l)[(i + 1) * 3 + j]? = (l[i]'(by simpa using h)).vals[j]?
    rw [List.getElem?_append_right (by show 3 ≤ (i + 1) * 3 + j; omega), show (i + 1) * 3 + j - t.vals.length = i * 3 + j from by show (i + 1) * 3 + j - 3 = _; omega]
    exact rdRow_get l i j (by simpa using h) hj
/-- The text is the set's bytes. -/
def SetIs (op : Nat) (st : W4) (S : ByteArray) : Prop := op ≤ 8 ∧ (op = 1 → ∃ f, StF f st ∧ S.size ≤ 256 ∧ ∀ c, c < 256 → hasC S.data.toList c = f c)
mutual
/-- The node is this tree's; its rows lie in blocks of the kind B. -/
def TreeM (w : World) (B : Nat → Prop) : RT → RNd → Prop
  | .mk op st ks, nd => nd.op = (op : Int) ∧ SetIs op st nd.set ∧ ∃ nds, w.ownsRow 0 30 3 nd.kids ks.length (rdRow nds) ∧ (∀ g, nd.kids.ownBlock = some g → B g) ∧ TreesM w B ks nds
def TreesM (w : World) (B : Nat → Prop) : List RT → List RNd → Prop
  | [], nds => nds = []
  | t :: ts, nds => ∃ nd rest, nds = nd :: rest ∧ TreeM w B t nd ∧ TreesM w B ts rest
end
mutual
theorem TreeM.kept {w w' : World} {B B' : Nat → Prop} (hk : ∀ g, B g → g < w.heap.size → w'.heap[g]? = w.heap[g]?) (hB : ∀ g, B g → g < w.heap.size → B' g) : ∀ (t : RT) (nd : RNd), TreeM w B t nd → TreeM w' B' t nd
  | .mk op st ks, nd, h => by
    unfold TreeM at h ⊢
    obtain ⟨h1, h2, nds, h3, h4, h5⟩ := h
    exact ⟨h1, h2, nds, rg_own_kept h3 (fun g hg => hk g (h4 g hg) (rg_own_base h3 g hg).2), fun g hg => hB g (h4 g hg) (rg_own_base h3 g hg).2, TreesM.kept hk hB ks nds h5⟩
theorem TreesM.kept {w w' : World} {B B' : Nat → Prop} (hk : ∀ g, B g → g < w.heap.size → w'.heap[g]? = w.heap[g]?) (hB : ∀ g, B g → g < w.heap.size → B' g) : ∀ (ts : List RT) (nds : List RNd), TreesM w B ts nds → TreesM w' B' ts nds
  | [], nds, h => by unfold TreesM at h ⊢; exact h
  | t :: ts, nds, h => by
    unfold TreesM at h ⊢
    obtain ⟨nd, rest, h1, h2, h3⟩ := h
    exact ⟨nd, rest, h1, TreeM.kept hk hB t nd h2, TreesM.kept hk hB ts rest h3⟩
end
theorem TreeM.below {w w' : World} {B : Nat → Prop} {t : RT} {nd : RNd} (h : TreeM w B t nd) (hb : Below w.heap.size w w') : TreeM w' B t nd :=
  TreeM.kept (fun g _ hl => hb.block g hl) (fun _ h _ => h) t nd h
theorem TreesM.below {w w' : World} {B : Nat → Prop} {ts : List RT} {nds : List RNd} (h : TreesM w B ts nds) (hb : Below w.heap.size w w') : TreesM w' B ts nds :=
  TreesM.kept (fun g _ hl => hb.block g hl) (fun _ h _ => h) ts nds h
theorem TreesM.len {w : World} {B : Nat → Prop} : ∀ {ts : List RT} {nds : List RNd}, TreesM w B ts nds → nds.length = ts.length
  | [], nds, h => by unfold TreesM at h; rw [h]; rfl
  | t :: ts, nds, h => by
    unfold TreesM at h
    obtain ⟨nd, rest, h1, _, h3⟩ := h
    rw [h1, List.length_cons, h3.len, List.length_cons]
theorem TreesM.snoc {w : World} {B : Nat → Prop} {t : RT} {nd : RNd} (h : TreeM w B t nd) : ∀ {ts : List RT} {nds : List RNd}, TreesM w B ts nds → TreesM w B (ts ++ [t]) (nds ++ [nd])
  | [], nds, h2 => by
    unfold TreesM at h2; subst h2
    show TreesM w B [t] [nd]
    unfold TreesM
    exact ⟨nd, [], rfl, h, by unfold TreesM; rfl⟩
  | u :: ts, nds, h2 => by
    unfold TreesM at h2
    obtain ⟨x, rest, h3, h4, h5⟩ := h2
    subst h3
    show TreesM w B (u :: (ts ++ [t])) (x :: (rest ++ [nd]))
    unfold TreesM
    exact ⟨x, rest ++ [nd], rfl, h4, h5.snoc h⟩
theorem TreeM.leaf (w : World) (B : Nat → Prop) (op : Nat) (st : W4) (S : ByteArray) (hS : SetIs op st S) : TreeM w B (.mk op st []) ⟨op, S, none, 0, 0⟩ := by
  unfold TreeM
  exact ⟨rfl, hS, [], World.ownsRow_nil w 0 _ 3, fun g hg => by simp [RNd.kids, Value.ownBlock] at hg, by unfold TreesM; rfl⟩
theorem SetIs.no {op : Nat} (h : op ≠ 1 ∧ op ≤ 8) (st : W4) (S : ByteArray) : SetIs op st S := ⟨h.2, fun e => absurd e h.1⟩
/-- The document's nodes, gathered as its trees are. -/
def gatherM (k : Nat) (p : Option Addr) (n c : Nat) : List RNd → RNd
  | [] => RNd.zero
  | [x] => x
  | _ => ⟨k, ⟨#[]⟩, p, n, c⟩
theorem gatherM_tree {w : World} {B : Nat → Prop} {k : Nat} (hk : k ≠ 1 ∧ k ≤ 8) {p : Option Addr} {c : Nat} : ∀ {ts : List RT} {nds : List RNd}, w.ownsRow 0 30 3 (.slice p nds.length c) nds.length (rdRow nds) → (∀ g, (Value.slice p nds.length c).ownBlock = some g → B g) → TreesM w B ts nds → TreeM w B (gatherR k ts) (gatherM k p nds.length c nds)
  | [], nds, _, _, h3 => by
    unfold TreesM at h3; subst h3
    exact TreeM.leaf w B 0 W4.zero _ (SetIs.no (by decide) _ _)
  | [t], nds, _, _, h3 => by
    unfold TreesM at h3
    obtain ⟨nd, rest, h4, h5, h6⟩ := h3
    unfold TreesM at h6
    subst h6; subst h4
    exact h5
  | t :: u :: ts, nds, h1, h2, h3 => by
    have hl := h3.len
    obtain ⟨x, y, l, rfl⟩ : ∃ x y l, nds = x :: y :: l := by
      rcases nds with _ | ⟨x, _ | ⟨y, l⟩⟩
      · simp at hl
      · simp at hl
      · exact ⟨x, y, l, rfl⟩
    show TreeM w B (.mk k W4.zero (t :: u :: ts)) ⟨k, ⟨#[]⟩, p, (x :: y :: l).length, c⟩
    unfold TreeM
    exact ⟨rfl, SetIs.no hk _ _, x :: y :: l, by rw [← hl]; exact h1, h2, h3⟩
theorem Tryd.infoRN : (Tryd.prog.info? 30).map (fun i => (i.zero, i.size, i.bytes)) = some (some (.agg #[.int .i64 0, .string ⟨#[]⟩, .slice none 0 0]), 3, 48) := by kernel_rfl
theorem rnd_new {b : Nat} (w : World) (n : RNd) (hb : w.heap.size = b) : ∀ (j : Nat) (u : Value), n.vals[j]? = some u → (w.alloc (.cells #[.int .i64 n.op, .string n.set, .slice n.kp n.kn n.kc] 30)).cell? (Addr.add ⟨b, 0, none⟩ j) = some u := by
  subst hb
  intro j u hj
  match j, hj with
  | 0, hj => simp [RNd.vals] at hj; subst hj; simp [Addr.add, go_sem]
  | 1, hj => simp [RNd.vals] at hj; subst hj; simp [Addr.add, go_sem]
  | 2, hj => simp [RNd.vals] at hj; subst hj; simp [Addr.add, go_sem]
  | n + 3, hj => simp [RNd.vals] at hj
/-- The cells of a row's node. -/
theorem rdRow_cells {w : World} {base g c : Nat} {nds : List RNd} (h : w.ownsRow base 30 3 (.slice (some ⟨g, 0, none⟩) nds.length c) nds.length (rdRow nds)) (i : Nat) (x : RNd) (hx : nds[i]? = some x) :
    w.cell? ⟨g, i * 3, none⟩ = some (.int .i64 x.op) ∧ w.cell? ⟨g, i * 3 + 1, none⟩ = some (.string x.set) ∧ w.cell? ⟨g, i * 3 + 2, none⟩ = some (.slice x.kp x.kn x.kc) := by
  have hi : i < nds.length := by
    rcases Nat.lt_or_ge i nds.length with h | h
    · exact h
    · rw [List.getElem?_eq_none h] at hx; cases hx
  have he : nds[i] = x := by rw [List.getElem?_eq_getElem hi] at hx; exact Option.some.inj hx
  refine ⟨?_, ?_, ?_⟩
  · rw [h.cellAt (i * 3) (by omega), show i * 3 = i * 3 + 0 from rfl, rdRow_get nds i 0 hi (by omega), he]; rfl
  · rw [h.cellAt (i * 3 + 1) (by omega), rdRow_get nds i 1 hi (by omega), he]; rfl
  · rw [h.cellAt (i * 3 + 2) (by omega), rdRow_get nds i 2 hi (by omega), he]; rfl
/-- Sets: what a set's text says. -/
theorem setIs_of {st : W4} {f : Nat → Bool} (h : StF f st) {S : ByteArray} (hs : S.size ≤ 256) (hS : ∀ c, c < 256 → hasC S.data.toList c = f c) : SetIs 1 st S := ⟨by decide, fun _ => ⟨f, h, hs, hS⟩⟩
end Go.Proofs.YtjjejcgpeefclaaDoor

namespace Go.Proofs.YtjjejcgpeefclaaDoor
open Go.RowKit

structure Td where
  p : Nat
  bl : Nat
  cl : Nat
  be : Nat
  ce : Nat
  bo : Nat
  co : Nat
  eb : Nat → Nat
  ob : Nat → Nat
  s : ByteArray
  T : RT
def Td.N (d : Td) : Nat := (pre d.T).length
def Td.n (d : Td) : Nat := d.s.size
/-- The rows that are written to. -/
def Td.F (d : Td) (g : Nat) : Prop := ∃ k, k < d.N ∧ (g = d.eb k ∨ g = d.ob k)
def Td.ptr (d : Td) : Value := .pointer (some ⟨d.p, 0, none⟩)
/-- A part in memory. -/
def PartAt (w : World) (d : Td) (k : Nat) (t : RT) : Prop := ∃ (S : ByteArray) (kp : Option Addr) (kc : Nat),
  w.cell? ⟨d.bl, k * 3, none⟩ = some (.int .i64 (t.op : Int)) ∧ w.cell? ⟨d.bl, k * 3 + 1, none⟩ = some (.string S) ∧ w.cell? ⟨d.bl, k * 3 + 2, none⟩ = some (.slice kp t.kids.length kc) ∧ SetIs t.op t.set S ∧
  ∀ (i : Nat) (u : RT), t.kids[i]? = some u → ∃ (g j : Nat), kp = some ⟨g, 0, none⟩ ∧ ¬ d.F g ∧ g < w.heap.size ∧ w.cell? ⟨g, i, none⟩ = some (.int .i64 (j : Int)) ∧ (pre d.T)[j]? = some u
structure St (w : World) (d : Td) : Prop where
  tab : w.heap[d.p]? = some (.cells #[.string d.s, .slice (some ⟨d.bl, 0, none⟩) d.N d.cl, .slice (some ⟨d.be, 0, none⟩) d.N d.ce, .slice (some ⟨d.bo, 0, none⟩) d.N d.co] 100 (0, 0))
  part : ∀ k t, (pre d.T)[k]? = some t → PartAt w d k t
  ends : ∀ k, k < d.N → w.cell? ⟨d.be, k, none⟩ = some (.slice (some ⟨d.eb k, 0, none⟩) (d.n + 1) (d.n + 1))
  loop : ∀ k, k < d.N → w.cell? ⟨d.bo, k, none⟩ = some (.slice (some ⟨d.ob k, 0, none⟩) (d.n + 1) (d.n + 1))
  fp : ¬ d.F d.p
  fl : ¬ d.F d.bl
  fe : ¬ d.F d.be
  fo : ¬ d.F d.bo
  lt : d.bl < w.heap.size ∧ d.be < w.heap.size ∧ d.bo < w.heap.size
/-- No two rows are one. -/
structure Td.ok (d : Td) : Prop where
  e : ∀ j k, j < d.N → k < d.N → d.eb j = d.eb k → j = k
  o : ∀ j k, j < d.N → k < d.N → d.ob j = d.ob k → j = k
  eo : ∀ j k, j < d.N → k < d.N → d.eb j ≠ d.ob k
  n : d.n ≤ 100
  shp : d.T.Shp
  fine : d.T.Fine
  kn : ∀ t ∈ pre d.T, t.kids.length ≤ 1000000
theorem St.plt {w : World} {d : Td} (h : St w d) : d.p < w.heap.size := (Array.getElem?_eq_some_iff.1 h.tab).1
theorem cell_kept {w w' : World} {a : Addr} {v : Value} (h : w.cell? a = some v) (hk : w'.heap[a.block]? = w.heap[a.block]?) : w'.cell? a = some v := (World.cell?_of_block hk).trans h
theorem St.chg {w w' : World} {d : Td} (h : St w d) (hc : Chg d.F w w') : St w' d :=
  ⟨(hc.block _ h.plt h.fp).trans h.tab, fun k t ht => by
    obtain ⟨S, kp, kc, h1, h2, h3, h4, h5⟩ := h.part k t ht
    have hb := hc.block _ h.lt.1 h.fl
    refine ⟨S, kp, kc, cell_kept h1 hb, cell_kept h2 hb, cell_kept h3 hb, h4, fun i u hu => ?_⟩
    obtain ⟨g, j, e1, e2, e3, e4, e5⟩ := h5 i u hu
    exact ⟨g, j, e1, e2, Nat.lt_of_lt_of_le e3 hc.size, cell_kept e4 (hc.block _ e3 e2), e5⟩,
   fun k hk => cell_kept (h.ends k hk) (hc.block _ h.lt.2.1 h.fe), fun k hk => cell_kept (h.loop k hk) (hc.block _ h.lt.2.2 h.fo), h.fp, h.fl, h.fe, h.fo,
   ⟨Nat.lt_of_lt_of_le h.lt.1 hc.size, Nat.lt_of_lt_of_le h.lt.2.1 hc.size, Nat.lt_of_lt_of_le h.lt.2.2 hc.size⟩⟩
/-- Nothing is known, or this list. -/
def Know (w : World) (d : Td) (l : List Nat) (v : Value) : Prop := v = .slice none 0 0 ∨ ∃ g c, v = .slice (some ⟨g, 0, none⟩) l.length c ∧ RowI w 0 g c l ∧ ¬ d.F g
theorem Know.chg {w w' : World} {d : Td} {l : List Nat} {v : Value} (h : Know w d l v) (hc : Chg d.F w w') : Know w' d l v := by
  rcases h with h | ⟨g, c, h1, h2, h3⟩
  · exact .inl h
  · exact .inr ⟨g, c, h1, h2.kept (hc.block _ h2.base.2 h3), h3⟩
noncomputable def lstE (d : Td) (t : RT) (a : Nat) : List Nat := ups (Lead (gS d.s) d.n t a) (d.n + 1)
noncomputable def lstO (d : Td) (t : RT) (a : Nat) : List Nat := ups (Often (CatL (gS d.s) d.n t.kids) a) (d.n + 1)
/-- A row of what is known. -/
def Kr (w : World) (d : Td) (b : Nat) (f : Nat → List Nat) : Prop := ∃ arr, w.heap[b]? = some (.cells arr 101 (0, 0)) ∧ arr.size = d.n + 1 ∧ ∀ a v, arr[a]? = some v → Know w d (f a) v
theorem Kr.chg {w w' : World} {d : Td} {b : Nat} {f : Nat → List Nat} (h : Kr w d b f) (hc : Chg d.F w w') (hb : w'.heap[b]? = w.heap[b]?) : Kr w' d b f := by
  obtain ⟨arr, h1, h2, h3⟩ := h
  exact ⟨arr, hb.trans h1, h2, fun a v hv => (h3 a v hv).chg hc⟩
theorem Kr.lt {w : World} {d : Td} {b : Nat} {f : Nat → List Nat} (h : Kr w d b f) : b < w.heap.size := by
  obtain ⟨arr, h1, -⟩ := h
  exact (Array.getElem?_eq_some_iff.1 h1).1
theorem Kr.cell {w : World} {d : Td} {b : Nat} {f : Nat → List Nat} (h : Kr w d b f) {a : Nat} (ha : a ≤ d.n) : ∃ v, w.cell? ⟨b, a, none⟩ = some v ∧ w.frozen? ⟨b, a, none⟩ = false ∧ Know w d (f a) v := by
  obtain ⟨arr, h1, h2, h3⟩ := h
  have hl : a < arr.size := by omega
  exact ⟨arr[a], (rg_cell h1).trans (Array.getElem?_eq_getElem hl), rg_frozen h1, h3 a _ (Array.getElem?_eq_getElem hl)⟩
theorem Kr.set {w : World} {d : Td} {b : Nat} {f : Nat → List Nat} (h : Kr w d b f) {a : Nat} {v : Value} (hv : Know w d (f a) v) (hc : Chg d.F w (w.setCell ⟨b, a, none⟩ v)) : Kr (w.setCell ⟨b, a, none⟩ v) d b f := by
  obtain ⟨arr, h1, h2, h3⟩ := h
  refine ⟨_, rg_setCell h1 v, by simp [h2], fun j u hu => ?_⟩
  rw [Array.getElem?_setIfInBounds] at hu
  split at hu
  · rename_i e
    subst e
    split at hu
    · cases hu; exact hv.chg hc
    · cases hu
  · exact (h3 j u hu).chg hc
structure Dy (w : World) (d : Td) : Prop where
  e : ∀ k t, (pre d.T)[k]? = some t → Kr w d (d.eb k) (lstE d t)
  o : ∀ k t, (pre d.T)[k]? = some t → Kr w d (d.ob k) (lstO d t)
theorem Td.klt {d : Td} {k : Nat} {t : RT} (h : (pre d.T)[k]? = some t) : k < d.N := (List.getElem?_eq_some_iff.1 h).1
theorem Td.kof {d : Td} {k : Nat} (h : k < d.N) : ∃ t, (pre d.T)[k]? = some t := ⟨_, List.getElem?_eq_getElem h⟩
theorem Dy.flt {w : World} {d : Td} (h : Dy w d) {g : Nat} (hg : d.F g) : g < w.heap.size := by
  obtain ⟨k, hk, hg⟩ := hg
  obtain ⟨t, ht⟩ := Td.kof hk
  rcases hg with rfl | rfl
  · exact (h.e k t ht).lt
  · exact (h.o k t ht).lt
theorem Dy.next {w w' : World} {d : Td} (h : Dy w d) (hb : Below w.heap.size w w') : Dy w' d :=
  have hc : Chg d.F w w' := Chg.of_below hb (Nat.le_refl _)
  ⟨fun k t ht => (h.e k t ht).chg hc (hb.block _ (h.e k t ht).lt), fun k t ht => (h.o k t ht).chg hc (hb.block _ (h.o k t ht).lt)⟩
theorem set_chg {w : World} {d : Td} {b a : Nat} (hb : d.F b) (v : Value) : Chg d.F w (w.setCell ⟨b, a, none⟩ v) := (Chg.refl _ _).set (fun _ => hb) v
theorem Dy.setE {w : World} {d : Td} (h : Dy w d) (hd : d.ok) {k : Nat} {t : RT} (hk : (pre d.T)[k]? = some t) {a : Nat} {v : Value} (hv : Know w d (lstE d t a) v) : Dy (w.setCell ⟨d.eb k, a, none⟩ v) d := by
  have hc : Chg d.F w (w.setCell ⟨d.eb k, a, none⟩ v) := set_chg ⟨k, Td.klt hk, .inl rfl⟩ v
  refine ⟨fun j u hj => ?_, fun j u hj => ?_⟩
  · by_cases e : j = k
    · subst e
      obtain rfl : u = t := Option.some.inj (hj.symm.trans hk)
      exact (h.e j u hj).set hv hc
    · exact (h.e j u hj).chg hc (Below.heap_setCell _ _ _ _ fun e2 => e (hd.e _ _ (Td.klt hj) (Td.klt hk) e2))
  · exact (h.o j u hj).chg hc (Below.heap_setCell _ _ _ _ fun e2 => hd.eo _ _ (Td.klt hk) (Td.klt hj) e2.symm)
theorem Dy.setO {w : World} {d : Td} (h : Dy w d) (hd : d.ok) {k : Nat} {t : RT} (hk : (pre d.T)[k]? = some t) {a : Nat} {v : Value} (hv : Know w d (lstO d t a) v) : Dy (w.setCell ⟨d.ob k, a, none⟩ v) d := by
  have hc : Chg d.F w (w.setCell ⟨d.ob k, a, none⟩ v) := set_chg ⟨k, Td.klt hk, .inr rfl⟩ v
  refine ⟨fun j u hj => ?_, fun j u hj => ?_⟩
  · exact (h.e j u hj).chg hc (Below.heap_setCell _ _ _ _ fun e2 => hd.eo _ _ (Td.klt hj) (Td.klt hk) e2)
  · by_cases e : j = k
    · subst e
      obtain rfl : u = t := Option.some.inj (hj.symm.trans hk)
      exact (h.o j u hj).set hv hc
    · exact (h.o j u hj).chg hc (Below.heap_setCell _ _ _ _ fun e2 => e (hd.o _ _ (Td.klt hj) (Td.klt hk) e2))
/-- A list that a call made; what is known is right. -/
structure Ob (w0 w : World) (d : Td) (g c : Nat) (l : List Nat) : Prop where
  row : RowI w 0 g c l
  nf : ¬ d.F g
  dy : Dy w d
  ch : Chg d.F w0 w
/-- What a call hands back. -/
def EndP (d : Td) (w : World) (l : List Nat) (e : Ending) (w' : World) : Prop := ∃ g c, e = .returned (.slice (some ⟨g, 0, none⟩) l.length c) ∧ Ob w w' d g c l
def EndsC (d : Td) (k : Nat) (t : RT) : Prop := ∀ (w : World) (a : Nat), a ≤ d.n → St w d → Dy w d → Calls Tryd.prog 45 #[.pointer (some ⟨d.p, 0, none⟩), .int .i64 (k : Int), .int .i64 (a : Int)] w (EndP d w (lstE d t a))
def LoopC (d : Td) (k : Nat) (t : RT) : Prop := ∀ (w : World) (a : Nat), a ≤ d.n → St w d → Dy w d → Calls Tryd.prog 73 #[.pointer (some ⟨d.p, 0, none⟩), .int .i64 (k : Int), .int .i64 (a : Int)] w (EndP d w (lstO d t a))
def ReckC (d : Td) (k : Nat) (t : RT) : Prop := ∀ (w : World) (a : Nat), a ≤ d.n → St w d → Dy w d → Calls Tryd.prog 62 #[.pointer (some ⟨d.p, 0, none⟩), .int .i64 (k : Int), .int .i64 (a : Int)] w (EndP d w (lstE d t a))
/-- What a node's call reads. -/
theorem St.row {w : World} {d : Td} (h : St w d) {k : Nat} {t : RT} (hk : (pre d.T)[k]? = some t) :
    w.cell? ⟨d.p, 0, none⟩ = some (.string d.s) ∧ w.cell? ⟨d.p, 1, none⟩ = some (.slice (some ⟨d.bl, 0, none⟩) d.N d.cl) ∧ w.cell? ⟨d.p, 2, none⟩ = some (.slice (some ⟨d.be, 0, none⟩) d.N d.ce) ∧ w.cell? ⟨d.p, 3, none⟩ = some (.slice (some ⟨d.bo, 0, none⟩) d.N d.co) ∧
    w.cell? ⟨d.be, k, none⟩ = some (.slice (some ⟨d.eb k, 0, none⟩) (d.n + 1) (d.n + 1)) ∧ w.cell? ⟨d.bo, k, none⟩ = some (.slice (some ⟨d.ob k, 0, none⟩) (d.n + 1) (d.n + 1)) :=
  ⟨rg_cell h.tab, rg_cell h.tab, rg_cell h.tab, rg_cell h.tab, h.ends k (Td.klt hk), h.loop k (Td.klt hk)⟩
theorem run_inil (W : World) : (binOp .eql 101 (.slice none 0 0) (.slice none 0 0)).run Tryd.prog W = .ok (.bool true) W := by kernel_rfl
theorem run_isome (g n c : Nat) (W : World) : (binOp .eql 101 (.slice (some ⟨g, 0, none⟩) n c) (.slice none 0 0)).run Tryd.prog W = .ok (.bool false) W := by kernel_rfl
theorem Ob.then {w0 w w' : World} {d : Td} {g c g2 c2 : Nat} {l l2 : List Nat} (h : Ob w0 w d g c l) (h2 : Ob w w' d g2 c2 l2) : Ob w0 w' d g c l ∧ Ob w0 w' d g2 c2 l2 :=
  ⟨⟨h.row.kept (h2.ch.block _ h.row.base.2 h.nf), h.nf, h2.dy, h.ch.then h2.ch⟩, ⟨h2.row, h2.nf, h2.dy, h.ch.then h2.ch⟩⟩
theorem Ob.next {w0 w w' : World} {d : Td} {g c : Nat} {l : List Nat} (h : Ob w0 w d g c l) (hb : Below w.heap.size w w') : Ob w0 w' d g c l :=
  ⟨h.row.next hb, h.nf, h.dy.next hb, h.ch.then (Chg.of_below hb (Nat.le_refl _))⟩
theorem Ob.fresh {w0 w w' : World} {d : Td} {g c g2 c2 : Nat} {l l2 : List Nat} (h : Ob w0 w d g c l) (h2 : RowI w' w.heap.size g2 c2 l2) (hb : Below w.heap.size w w') : Ob w0 w' d g2 c2 l2 :=
  ⟨h2.less (Nat.zero_le _), fun hf => by have := h.dy.flt hf; have := h2.base.1; omega, h.dy.next hb, h.ch.then (Chg.of_below hb (Nat.le_refl _))⟩
theorem Ob.start {w0 w w' : World} {d : Td} {g2 c2 : Nat} {l2 : List Nat} (hy : Dy w d) (hc : Chg d.F w0 w) (h2 : RowI w' w.heap.size g2 c2 l2) (hb : Below w.heap.size w w') : Ob w0 w' d g2 c2 l2 :=
  ⟨h2.less (Nat.zero_le _), fun hf => by have := hy.flt hf; have := h2.base.1; omega, hy.next hb, hc.then (Chg.of_below hb (Nat.le_refl _))⟩
theorem Ob.as {w0 w : World} {d : Td} {g c : Nat} {l l2 : List Nat} (h : Ob w0 w d g c l) (e : l = l2) : Ob w0 w d g c l2 := e ▸ h
/-- A row beside what is written. -/
theorem Ob.beside {w0 w : World} {d : Td} {g c b : Nat} {l : List Nat} (h : Ob w0 w d g c l) {x : Obj} (hb : w0.heap[b]? = some x) (hn : ¬ d.F b) : w.heap[b]? = some x := (h.ch.block _ (Array.getElem?_eq_some_iff.1 hb).1 hn).trans hb
theorem ups_one {a n : Nat} (h : a ≤ n) : ups (fun y => a = y) (n + 1) = [a] := by
  have h1 : ups (fun y => a = y) a = [] := by
    have := ups_to (P := fun y => a = y) (c := 0) (x := a) (Nat.zero_le _) (fun y _ hy e => by omega)
    rw [this]; simp [ups]
  have h2 := ups_on (Q := fun y => a = y) (n := a) rfl
  rw [h1] at h2
  rw [ups_to (c := a + 1) (by omega) (fun y hy _ e => by omega), h2]; rfl
theorem ups_zero {P : Nat → Prop} {n : Nat} (h : ∀ y, y < n → ¬ P y) : ups P n = [] := by
  have := ups_to (P := P) (c := 0) (x := n) (Nat.zero_le _) (fun y _ hy => h y hy)
  rw [this]; simp [ups]
end Go.Proofs.YtjjejcgpeefclaaDoor
