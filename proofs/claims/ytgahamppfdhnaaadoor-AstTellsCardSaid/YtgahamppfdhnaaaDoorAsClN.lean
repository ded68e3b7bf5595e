/-
  THE COPY OF A TREE: a step of it, how it begins and ends.
-/
import Derived.Test.YtgahamppfdhnaaaDoorAsClL
namespace Go.Proofs.YtgahamppfdhnaaaDoor
open Go.RowKit

mutual
/-- A tree whose texts are not too long. -/
def TxOk : T → Prop
  | .mk op tx _ ks => op.size ≤ 281474976710656 ∧ tx.size ≤ 281474976710656 ∧ TxOkL ks
def TxOkL : List T → Prop
  | [] => True
  | t :: l => TxOk t ∧ TxOkL l
end
theorem TxOkL.all : ∀ {l : List T}, TxOkL l → ∀ t ∈ l, TxOk t
  | [], _, t, h => by cases h
  | x :: l, h, t, ht => by
    rw [TxOkL] at h
    rcases List.mem_cons.1 ht with rfl | ht
    · exact h.1
    · exact TxOkL.all h.2 t ht
theorem TxOkL.of : ∀ {l : List T}, (∀ t ∈ l, TxOk t) → TxOkL l
  | [], _ => by rw [TxOkL]; trivial
  | x :: l, h => by rw [TxOkL]; exact ⟨h x (by simp), TxOkL.of fun t ht => h t (List.mem_cons_of_mem _ ht)⟩
theorem TxOk.at {a : AT} (h : TxOk (er a)) : a.nd.op.size ≤ 281474976710656 ∧ a.nd.tx.size ≤ 281474976710656 ∧ ∀ k ∈ a.ks, TxOk (er k) := by
  cases a
  rw [er, TxOk] at h
  refine ⟨h.1, h.2.1, fun k hk => h.2.2.all (er k) ?_⟩
  rw [erL_map]
  exact List.mem_map.2 ⟨k, hk, rfl⟩
section
variable {B : Nat → Prop} {g S i : Nat} {X : List AT} {nds : List Nd} {w w' : World}
theorem pend_at (h : i < X.length) : pend (X.drop i) = sizeL (erL X[i].ks) + pend (X.drop (i + 1)) := by
  rw [List.drop_eq_getElem_cons h]
  rfl
theorem ClSt.fits (h : ClSt B g S i X nds w) (hi : i < X.length) : nds.length + X[i].ks.length ≤ S := by
  have h1 := h.cnt
  rw [pend_at hi] at h1
  have h2 := pend_kids X[i].ks
  have := h.len
  omega
theorem ClSt.step (h : ClSt B g S i X nds w) (hi : i < X.length) (hin : i < nds.length) (p : Option Addr) (c : Nat) (hp : X[i].ks = [] ∨ p = some ⟨g, X.length * 4, none⟩)
    (hl : Lay w' g S ((nds ++ X[i].ks.map AT.nd).set i { nds[i] with kp := p, kn := X[i].ks.length, kc := c })) (hk : ∀ k, k ≠ g → k < w.heap.size → w'.heap[k]? = w.heap[k]?) (hg : ¬ B g) :
    ClSt B g S (i + 1) (X ++ X[i].ks) ((nds ++ X[i].ks.map AT.nd).set i { nds[i] with kp := p, kn := X[i].ks.length, kc := c }) w' := by
  have hlen := h.len
  refine ⟨hl, by simp [hlen], ?_, ?_, ?_, ?_, ?_⟩
  · intro j hj h1 h2
    by_cases e : j = i
    · subst e
      rw [List.getElem_set_self, List.getElem_append_left hi]
      have ht := h.todo j (Nat.le_refl _) hin hi
      refine ⟨by rw [ht], by rw [ht], by rw [ht], rfl, ?_⟩
      rcases hp with hp | hp
      · exact .inl hp
      · exact .inr ⟨X.length, hp, fun r hr => by rw [List.getElem?_append_right (by omega), Nat.add_sub_cancel_left, List.getElem?_eq_getElem hr]⟩
    · have hjX : j < X.length := by omega
      have hjn : j < nds.length := by omega
      rw [List.getElem_set_ne (fun e2 => e e2.symm), List.getElem_append_left hjn, List.getElem_append_left hjX]
      exact (h.done j (by omega) hjn hjX).more
  · intro j hj h1 h2
    rw [List.getElem_set_ne (by omega)]
    by_cases hjX : j < X.length
    · rw [List.getElem_append_left (by omega), List.getElem_append_left hjX]
      exact h.todo j (by omega) (by omega) hjX
    · rw [List.getElem_append_right (by omega), List.getElem_append_right (by omega), List.getElem_map]
      simp only [hlen]
  · intro a ha
    have hx : Kd a.nd.kp a.ks ∧ MemL w B a.ks := by
      rcases List.mem_append.1 ha with ha | ha
      · exact h.src a ha
      · have := Mem.iff.1 ((h.src _ (List.getElem_mem hi)).2.all a ha)
        exact this.2.2
    exact ⟨hx.1, MemL.kept (fun k hb hlt => hk k (fun e => hg (e ▸ hb)) hlt) (fun _ h _ => h) _ hx.2⟩
  · have h1 := h.cnt
    rw [pend_at hi] at h1
    have h2 := pend_kids X[i].ks
    rw [List.drop_append_of_le_length (by omega), pend_append, List.length_append]
    omega
  · rw [List.length_append]; omega
theorem ClSt.move (h : ClSt B g S i X nds w) (hl : Lay w' g S nds) (hk : ∀ k, k ≠ g → k < w.heap.size → w'.heap[k]? = w.heap[k]?) (hg : ¬ B g) : ClSt B g S i X nds w' :=
  ⟨hl, h.len, h.done, h.todo, fun a ha => ⟨(h.src a ha).1, MemL.kept (fun k hb hlt => hk k (fun e => hg (e ▸ hb)) hlt) (fun _ h _ => h) _ (h.src a ha).2⟩, h.cnt, h.le⟩
theorem ClSt.start {nd : Nd} {ks : List AT} (hl : Lay w g (1 + sizeL (erL ks)) [nd]) (hkd : Kd nd.kp ks) (hm : MemL w B ks) (hn : nd.kn = ks.length) : ClSt B g (1 + sizeL (erL ks)) 0 [nd.at 0 0 ks] [nd] w := by
  have e : (nd.at 0 0 ks).nd = nd := by cases nd; simp only at hn; subst hn; rfl
  refine ⟨hl, rfl, fun j h => by omega, fun j _ h1 h2 => ?_, fun a ha => ?_, ?_, Nat.zero_le _⟩
  · have : j = 0 := by simpa using h1
    subst this
    simp [e]
  · obtain rfl : a = nd.at 0 0 ks := by simpa using ha
    rw [e]
    exact ⟨hkd, hm⟩
  · simp [pend, Nd.at, AT.ks]
theorem ClSt.end (h : ClSt B g S X.length X nds w) {a : AT} (ha : X[0]? = some a) : ∃ nd, NodeAt w g 0 nd ∧ ∃ ks, TV w (fun k => k = g) nd ks ∧ nd.t ks = er a := by
  obtain ⟨a', h1, h2, h3, h4, hj, h5⟩ := h.build a 0 ha
  refine ⟨nds[0], by simpa using h.lay.node hj, a'.ks, ?_, ?_⟩
  · rw [← h5]
    obtain ⟨_, _, k1, k2⟩ := Mem.iff.1 h4
    exact ⟨by cases a'; rfl, k1, k2⟩
  · rw [← h5, ← h3]
    cases a'; rw [er]; rfl
end
theorem size_node (W : World) : (sizeOf 25).run Tryd.prog W = .ok 4 W := by kernel_rfl
theorem slice3_run (g f n S : Nat) (h : f + n ≤ S) (W : World) :
    (Instr.slice 23 (.slice (some ⟨g, 0, none⟩) (f + n) S) (some (.int .i64 (f : Int))) (some (.int .i64 ((f : Int) + (n : Int)))) (some (.int .i64 ((f : Int) + (n : Int))))).run Tryd.prog W = .ok (.slice (if n = 0 then some ⟨g, 0, none⟩ else some ⟨g, f * 4, none⟩) n n) W := by
  have hu : Tryd.prog.underlying 23 = some (.slice (Tryd.prog.elem 23)) := by kernel_rfl
  have he : Tryd.prog.elem 23 = 25 := by kernel_rfl
  rw [run_slice_lhm W 23 _ _ _ hu .i64 .i64 .i64 (f : Int) _ _ (by omega) (by omega) (by omega) (by omega), he, size_node]
  simp only [Result.andThen, sliced]
  have e1 : ((f : Int) + (n : Int)).toNat = f + n := by omega
  have e2 : (f : Int).toNat = f := by omega
  rw [e1, e2, Nat.add_sub_cancel_left]
  by_cases hn : n = 0
  · subst hn; simp
  · rw [if_neg hn, if_neg (by omega)]
    simp only [Addr.add, Option.map_some]
    split <;> simp_all
/-- The rest of what the copy of a tree holds. -/
structure ClW (w : World) (g : Nat) (wx : World) : Prop where
  bel : Below w.heap.size w wx
  hg : w.heap.size + 2 ≤ g
  row : wx.heap[w.heap.size + 1]? = some (.cells #[.string ⟨#[]⟩, .string ⟨#[]⟩, .int .i64 0, .slice none 0 0] 25 (0, 0))
theorem ClW.next {w wx wy : World} {g : Nat} (h : ClW w g wx) (hb : Below wx.heap.size wx wy) : ClW w g wy :=
  ⟨h.bel.trans (hb.mono h.bel.size), h.hg, (hb.block _ (as_lt h.row)).trans h.row⟩
theorem ClW.one {w wx wy : World} {g : Nat} (h : ClW w g wx) (hb : OneB g wx wy) : ClW w g wy :=
  ⟨OneB.below h.bel hb (by have := h.hg; omega), h.hg, (hb.block _ (by have := h.hg; omega)).trans h.row⟩
theorem ClW.set {w wx : World} {g : Nat} (h : ClW w g wx) (o : Nat) (v : Value) : ClW w g (wx.setCell ⟨g, o, none⟩ v) := h.one ((OneB.refl g wx).set o v)
end Go.Proofs.YtgahamppfdhnaaaDoor
