/-
  WHAT AstTells KEEPS; how deep a tree is.
-/
import Derived.Test.YtgahamppfdhnaaaDoorAsRa
namespace Go.Proofs.YtgahamppfdhnaaaDoor
open Go.RowKit

mutual
def ann : T → AT
  | .mk op tx pl ts => .mk op tx pl none 0 0 0 (annL ts)
def annL : List T → List AT
  | [] => []
  | t :: l => ann t :: annL l
end
mutual
theorem er_ann : ∀ t : T, er (ann t) = t
  | .mk op tx pl ts => by rw [ann, er, erL_ann ts]
theorem erL_ann : ∀ l : List T, erL (annL l) = l
  | [] => by rw [annL, erL]
  | t :: l => by rw [annL, erL, er_ann t, erL_ann l]
end
def deepD : List (Nat × T) → Nat
  | [] => 0
  | x :: l => max x.1 (deepD l)
theorem deepD_append : ∀ a b : List (Nat × T), deepD (a ++ b) = max (deepD a) (deepD b)
  | [], b => by simp [deepD]
  | x :: l, b => by show max x.1 (deepD (l ++ b)) = _; rw [deepD_append l b]; simp only [deepD]; omega
theorem deepF_D : ∀ l : List Fe, l ≠ [] → deepF l = deepD (l.map keyF2) + 1
  | [], h => absurd rfl h
  | [x], _ => by simp [deepF, deepD, keyF2]
  | x :: y :: l, _ => by
    have := deepF_D (y :: l) (by simp)
    show max (x.deep + 1) (deepF (y :: l)) = max x.deep (deepD ((y :: l).map keyF2)) + 1
    omega
theorem depth_flat (t : T) : t.depth = deepD (flatTT 0 t) + 1 := by
  obtain ⟨op, tx, pl, ts⟩ := t
  have h : ∀ ts : List T, ∃ ks : List AT, erL ks = ts := by
    intro ts
    exact ⟨annL ts, erL_ann ts⟩
  obtain ⟨ks, rfl⟩ := h ts
  have e : er (.mk op tx pl none 0 0 0 ks) = .mk op tx pl (erL ks) := by rw [er]
  rw [← e, ← flat_keys2, ← deepF_D _ (by rw [flat]; simp), flat_deep]
  omega
theorem flatTT_le : ∀ (l : List (Nat × T)) (x : Nat × T), x ∈ l → x.1 ≤ deepD l
  | y :: l, x, h => by
    rcases List.mem_cons.1 h with rfl | h
    · rw [deepD]; omega
    · have := flatTT_le l x h; rw [deepD]; omega
/-- What is below a tree of parts is as small. -/
theorem sub_all {P : T → Prop} (hk : ∀ op tx pl ks, P (.mk op tx pl ks) → ∀ k ∈ ks, P k) (t : T) (d : Nat) (h : P t) : ∀ x ∈ flatTT d t, P x.2 := by
  intro x hx
  rw [← er_ann t, ← flat_keys2] at hx
  obtain ⟨y, hy, rfl⟩ := List.mem_map.1 hx
  refine flat_all (P := fun a => P (er a)) (fun a h k hk2 => ?_) d (ann t) (by rw [er_ann]; exact h) y hy
  obtain ⟨op, tx, pl, kp, kc, g, o, ks⟩ := a
  rw [er] at h
  exact hk _ _ _ _ h _ (by rw [erL_map]; exact List.mem_map.2 ⟨k, hk2, rfl⟩)
theorem kids_print {l : List T} {k : T} (h : k ∈ l) : (printL k).length ≤ (kidsL l).length := by
  induction l with
  | nil => cases h
  | cons x l ih =>
    rw [kidsL]
    simp only [List.length_cons, List.length_append]
    rcases List.mem_cons.1 h with rfl | h
    · omega
    · have := ih h; omega
theorem kids_size {l : List T} {k : T} (h : k ∈ l) : k.size ≤ sizeL l := by
  induction l with
  | nil => cases h
  | cons x l ih =>
    rw [sizeL]
    rcases List.mem_cons.1 h with rfl | h
    · omega
    · have := ih h; omega
theorem treeOf_sub (l : List Pa) : ∀ x ∈ flatTT 0 (treeOf l), (printL x.2).length ≤ 90000 ∧ TxOk x.2 ∧ x.2.size ≤ 30 := by
  refine sub_all (P := fun t => (printL t).length ≤ 90000 ∧ TxOk t ∧ t.size ≤ 30) (fun op tx pl ks h k hk => ?_) _ _ ⟨?_, treeOf_txok l, treeOf_size l⟩
  · obtain ⟨h1, h2, h3⟩ := h
    rw [printL] at h1
    rw [TxOk] at h2
    rw [T.size] at h3
    have e1 := kids_print hk
    have e2 := kids_size hk
    simp only [List.length_cons, List.length_append] at h1
    exact ⟨by omega, h2.2.2.all k hk, by omega⟩
  · unfold treeOf
    split
    · rw [printL, textL_nil0]; simp [kidsL]
    · rename_i h
      have h1 := grow_plen (l.take 30) (l.take 30).length 0
      have h2 := treeOf_size l
      unfold treeOf at h2
      rw [if_neg h] at h2
      unfold growT at h2 ⊢
      omega
theorem deepD_pre {p l : List (Nat × T)} (h : p <+: l) : deepD p ≤ deepD l := by
  obtain ⟨r, rfl⟩ := h
  rw [deepD_append]; omega
structure Te (w : World) (bm : Nat) (M X : Nd) (t : T) (W : World) : Prop where
  bel : Below w.heap.size w W
  res : W.heap[w.heap.size]? = some (.cells #[.bool false] 4 (0, 0))
  lt : w.heap.size < bm
  m : NodeAt W bm 0 M
  tm : VT W 0 M t
  x : NodeAt W (bm + 1) 0 X
  tx : VT W 0 X t
theorem Te.next {w W W' : World} {bm : Nat} {M X : Nd} {t : T} (h : Te w bm M X t W) (hb : Below W.heap.size W W') : Te w bm M X t W' :=
  ⟨h.bel.trans (hb.mono h.bel.size), (hb.block _ (as_lt h.res)).trans h.res, h.lt, h.m.kept (hb.block _ h.m.lt), h.tm.next hb, h.x.kept (hb.block _ h.x.lt), h.tx.next hb⟩
structure Tu (bn : Nat) (N Y : Nd) (u : T) (W : World) : Prop where
  n : NodeAt W bn 0 N
  tn : VT W 0 N u
  y : NodeAt W (bn + 1) 0 Y
  ty : VT W 0 Y u
theorem Tu.next {W W' : World} {bn : Nat} {N Y : Nd} {u : T} (h : Tu bn N Y u W) (hb : Below W.heap.size W W') : Tu bn N Y u W' :=
  ⟨h.n.kept (hb.block _ h.n.lt), h.tn.next hb, h.y.kept (hb.block _ h.y.lt), h.ty.next hb⟩
/-- Two nodes anew, side by side. -/
theorem Tu.new (W : World) (N Y : Nd) (u : T) (h1 : VT W 0 N u) (h2 : VT W 0 Y u) : Tu W.heap.size N Y u ((W.alloc (.cells #[.string N.op, .string N.tx, .int .i64 N.pl, .slice N.kp N.kn N.kc] 25)).alloc (.cells #[.string Y.op, .string Y.tx, .int .i64 Y.pl, .slice Y.kp Y.kn Y.kc] 28)) := by
  have hb : Below W.heap.size W ((W.alloc (.cells #[.string N.op, .string N.tx, .int .i64 N.pl, .slice N.kp N.kn N.kc] 25)).alloc (.cells #[.string Y.op, .string Y.tx, .int .i64 Y.pl, .slice Y.kp Y.kn Y.kc] 28)) := ((Below.refl _ _).alloc (Nat.le_refl _) _).alloc (by simp) _
  refine ⟨(node_new W N).kept (Below.heap_alloc _ _ _ (by simp)), h1.next hb, ?_, h2.next hb⟩
  have := node_new' (W.alloc (.cells #[.string N.op, .string N.tx, .int .i64 N.pl, .slice N.kp N.kn N.kc] 25)) Y
  rw [World.size_alloc] at this
  exact this
/-- The row of the document's nodes in memory. -/
structure FlA (w : World) (g c n : Nat) (fs : List Fl) (l : List (Nat × T)) (W : World) : Prop where
  n : fs.length = n
  len : fs.length = l.length
  row : ∀ (i : Nat) (h : i < fs.length), W.cell? ⟨g, i * 5, none⟩ = some (.int .i64 (fs[i].d : Int)) ∧ NodeAt W g (i * 5 + 1) fs[i].n
  tr : ∀ (i : Nat) (h : i < fs.length) (h2 : i < l.length), fs[i].d = l[i].1 ∧ VT W 0 fs[i].n l[i].2
theorem FlA.next {w W W' : World} {g c n : Nat} {fs : List Fl} {l : List (Nat × T)} (h : FlA w g c n fs l W) (hb : Below W.heap.size W W') : FlA w g c n fs l W' :=
  ⟨h.n, h.len, fun i hi => ⟨(hb.cell (p := ⟨g, i * 5, none⟩) (World.block_lt_of_cell? _ _ (h.row i hi).1)).trans (h.row i hi).1, (h.row i hi).2.kept (hb.block _ (h.row i hi).2.lt)⟩, fun i hi h2 => ⟨(h.tr i hi h2).1, (h.tr i hi h2).2.next hb⟩⟩
theorem rall_of (n : Nd) (t : T) (b : Nat) (w : World) (h : VT w b n t) (hz : t.size ≤ 1000) :
    Calls Tryd.prog 15 #[n.val, .int .i64 0] w fun e w' => ∃ g c fs, e = .returned (.slice (some ⟨g, 0, none⟩) fs.length c) ∧ FlA w g c fs.length fs (flatTT 0 t) w' ∧ w.heap.size ≤ g ∧ Below w.heap.size w w' := by
  obtain ⟨ks, h1, rfl⟩ := h
  obtain ⟨op, tx, pl, kp, kn, kc⟩ := n
  obtain rfl : kn = ks.length := h1.len
  have := rall_any (.mk op tx pl kp kc 0 0 ks) 0 w (fun k => k < w.heap.size) (h1.kept (fun _ _ _ => rfl) (fun _ _ hl => hl)) (fun k hk => hk) (by rw [er]; exact hz) (by rw [er]; have : (T.mk op tx pl (erL ks)).size ≤ 1000 := hz; omega)
  refine this.mono ?_
  rintro e w' ⟨g, c, fs, rfl, ho, hf, hb⟩
  rw [er] at hf
  refine ⟨g, c, fs, rfl, ⟨rfl, hf.1, fun i hi => ?_, fun i hi h2 => ?_⟩, (ho.lt g rfl).1, hb⟩
  · have q : ∀ j, j < 5 → w'.cell? ⟨g, i * 5 + j, none⟩ = fs[i].vals[j]? := fun j hj => by
      rw [ho.cellAt (i * 5 + j) (by omega), flRow_get _ i j hi hj]
    exact ⟨q 0 (by omega), q 1 (by omega), q 2 (by omega), q 3 (by omega), q 4 (by omega)⟩
  · obtain ⟨e1, ks2, k1, k2⟩ := hf.2 i hi h2
    exact ⟨e1, ks2, k1.kept (fun _ _ _ => rfl) (fun _ _ _ => Nat.zero_le _), k2⟩
end Go.Proofs.YtgahamppfdhnaaaDoor
