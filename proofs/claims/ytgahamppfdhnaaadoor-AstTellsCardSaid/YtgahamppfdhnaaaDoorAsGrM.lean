/-
  WHAT A LIST OF PARTS GROWS INTO: mathematics; a row of nodes that grows, as trees.
-/
import Derived.Test.YtgahamppfdhnaaaDoorAsM
import Derived.Test.YtgahamppfdhnaaaDoorCutA
import Derived.Maps.AppendAt
namespace Go.Proofs.YtgahamppfdhnaaaDoor
open Go.RowKit

/-- 'append' at an operation, with where the new row lies. -/
theorem wp_append_at {P : Program} {w : World} {o : Oper} {a : Act} {K : Act → World → Prop} {Q : Exit → Act → World → Prop} (s x : Operand) (t : TypeId)
    (ho : o.op = .call { callee := .builtin .append, args := #[s, x], argTypes := #[t, t] })
    (base : Nat) (e : TypeId) (i : TypeInfo) (z : Value) (size bytes : Nat) (ht : P.underlying t = some (.slice e)) (hi : P.info? e = some i) (hz : i.zero = some z)
    (hsize : i.size = size) (hby : i.bytes = bytes) (hzs : z.cells.size = size) (hsz : 0 < size)
    (v : Value) (n : Nat) (xs : List Value) (hs : a.eval s = v) (hown : w.ownsRow base e size v n xs)
    (ad : Addr) (m c : Nat) (news : List Value) (hx : a.eval x = .slice (some ad) m c) (hl : news.length = m * size) (hnews : ∀ j u, news[j]? = some u → w.cell? (ad.add j) = some u) (h1 : ∀ u ∈ news, u.oneCell' = true)
    (h63 : n + m ≤ maxLen) (hbytes : (n + m) * bytes ≤ 140737488355328) (hbase : base ≤ w.heap.size)
    (h : ∀ v' w', w'.ownsRow base e size v' (n + m) (xs ++ news) → w.grownBy w' v.ownBlock → (v'.ownBlock = v.ownBlock ∨ v'.ownBlock = some w.heap.size) → K (a.put o.dst v') w') : o.wp P a w K Q := by
  obtain ⟨v', w', hr, h2, h3, _, h5⟩ := run_append_own_at (P := P) w base t o.type e i z size bytes ht hi hz hsize hby hzs hsz v n xs hown ad m c news hl hnews h1 h63 hbytes hbase
  unfold Oper.wp execOp
  simp only [ho, resolve, invoke, builtin, Sem.run_bind, Sem.run_pure, Result.andThen_ok, List.map_toArray, List.map_cons, List.map_nil, hs, hx, hr]
  exact h v' w' h2 h3 h5
/-- A part: its texts, its place, what is above it. -/
structure Pa where
  op : ByteArray
  tx : ByteArray
  pl : Int
  up : Int
def Pa.ok (a : Pa) : Prop := a.op.size ≤ maxLen ∧ a.tx.size ≤ maxLen ∧ (-9223372036854775808 ≤ a.pl ∧ a.pl ≤ 9223372036854775807) ∧ (-9223372036854775808 ≤ a.up ∧ a.up ≤ 9223372036854775807)
/-- The slice at q holds these parts. -/
def PaAt (w : World) (q : Option Addr) (l : List Pa) : Prop := ∀ i (h : i < l.length), ∃ a, q = some a ∧ a.block < w.heap.size ∧
  w.cell? (a.add (i * 4)) = some (.string l[i].op) ∧ w.cell? ⟨(a.add (i * 4)).block, (a.add (i * 4)).off + 1, none⟩ = some (.string l[i].tx) ∧
  w.cell? ⟨(a.add (i * 4)).block, (a.add (i * 4)).off + 2, none⟩ = some (.int .i64 l[i].pl) ∧ w.cell? ⟨(a.add (i * 4)).block, (a.add (i * 4)).off + 3, none⟩ = some (.int .i64 l[i].up)
theorem add_blockP (a : Addr) (n : Nat) : (a.add n).block = a.block := by unfold Addr.add; split <;> rfl
theorem PaAt.next {w w' : World} {q : Option Addr} {l : List Pa} (h : PaAt w q l) (hb : Below w.heap.size w w') : PaAt w' q l := fun i hi => by
  obtain ⟨a, h1, h2, h3, h4, h5, h6⟩ := h i hi
  have hl : (a.add (i * 4)).block < w.heap.size := by rw [add_blockP]; exact h2
  exact ⟨a, h1, Nat.lt_of_lt_of_le h2 hb.size, (hb.cell (p := a.add (i * 4)) hl).trans h3, (hb.cell (p := ⟨(a.add (i * 4)).block, (a.add (i * 4)).off + 1, none⟩) hl).trans h4, (hb.cell (p := ⟨(a.add (i * 4)).block, (a.add (i * 4)).off + 2, none⟩) hl).trans h5,
    (hb.cell (p := ⟨(a.add (i * 4)).block, (a.add (i * 4)).off + 3, none⟩) hl).trans h6⟩
theorem PaAt.take {w : World} {q : Option Addr} {l : List Pa} (h : PaAt w q l) (n : Nat) : PaAt w q (l.take n) := fun i hi => by
  have hi' : i < l.length := by simp at hi; omega
  have e : (l.take n)[i] = l[i] := by simp
  rw [e]; exact h i hi'
def upN (x : Int) (i : Nat) : Nat := (x.tmod i).natAbs
def upL (l : List Pa) (k : Nat) : Nat := match l[k]? with | some a => upN a.up k | none => 0
theorem upL_at {l : List Pa} {k : Nat} (h : k < l.length) : upL l k = upN l[k].up k := by unfold upL; rw [List.getElem?_eq_getElem h]
def kidI (l : List Pa) (i k : Nat) : Bool := upL l k == i
/-- What grows out of a part. -/
def growF (l : List Pa) : Nat → Nat → T
  | 0, _ => .mk ⟨#[]⟩ ⟨#[]⟩ 0 []
  | n + 1, i => match l[i]? with
    | none => .mk ⟨#[]⟩ ⟨#[]⟩ 0 []
    | some a => .mk (cutB a.op 10) (cutB a.tx 20) a.pl (((List.range' (i + 1) (l.length - (i + 1))).filter (kidI l i)).map (growF l n))
def growT (l : List Pa) (i : Nat) : T := growF l l.length i
theorem growF_more (l : List Pa) : ∀ (n k : Nat), k < l.length → l.length ≤ k + n → growF l (n + 1) k = growF l n k
  | 0, k, h1, h2 => by omega
  | n + 1, k, h1, h2 => by
    rw [growF, growF, List.getElem?_eq_getElem h1]
    simp only
    congr 1
    apply List.map_congr_left
    intro j hj
    have hj2 := List.mem_range'_1.1 (List.mem_filter.1 hj).1
    exact growF_more l n j (by omega) (by omega)
theorem growF_all (l : List Pa) : ∀ (d n k : Nat), k < l.length → l.length ≤ k + n → growF l (n + d) k = growF l n k
  | 0, _, _, _, _ => rfl
  | d + 1, n, k, h1, h2 => by rw [show n + (d + 1) = (n + d) + 1 from by omega, growF_more l (n + d) k h1 (by omega), growF_all l d n k h1 h2]
/-- A part's kids, up to a place. -/
def kidsTo (l : List Pa) (i k : Nat) : List T := ((List.range' (i + 1) (k - (i + 1))).filter (kidI l i)).map (growT l)
theorem growT_eq {l : List Pa} {i : Nat} (h : i < l.length) : growT l i = .mk (cutB l[i].op 10) (cutB l[i].tx 20) l[i].pl (kidsTo l i l.length) := by
  unfold growT kidsTo
  obtain ⟨n, hn⟩ : ∃ n, l.length = n + 1 := ⟨l.length - 1, by omega⟩
  rw [hn, growF, List.getElem?_eq_getElem h]
  simp only
  congr 1
  rw [hn]
  apply List.map_congr_left
  intro j hj
  have hj2 := List.mem_range'_1.1 (List.mem_filter.1 hj).1
  unfold growT
  rw [hn]
  exact (growF_more l n j (by omega) (by omega)).symm
theorem kidsTo_start (l : List Pa) (i : Nat) : kidsTo l i (i + 1) = [] := by simp [kidsTo]
theorem kidsTo_next {l : List Pa} {i k : Nat} (h : i + 1 ≤ k) : kidsTo l i (k + 1) = kidsTo l i k ++ (if upL l k = i then [growT l k] else []) := by
  unfold kidsTo
  rw [show k + 1 - (i + 1) = (k - (i + 1)) + 1 from by omega, List.range'_concat, List.filter_append, List.map_append]
  congr 1
  rw [show i + 1 + 1 * (k - (i + 1)) = k from by omega]
  by_cases hc : upL l k = i
  · rw [if_pos hc]; simp [kidI, hc]
  · rw [if_neg hc]; simp [kidI, hc]
theorem sizeL_append : ∀ a b : List T, sizeL (a ++ b) = sizeL a + sizeL b
  | [], b => by simp [sizeL]
  | x :: l, b => by show sizeL (x :: (l ++ b)) = _; rw [sizeL, sizeL, sizeL_append l b]; omega
theorem sizeL_split {p q r : Nat → Bool} (G : Nat → T) (h : ∀ k, r k = (p k || q k)) (hd : ∀ k, p k = true → q k = false) : ∀ m : List Nat, sizeL ((m.filter r).map G) = sizeL ((m.filter p).map G) + sizeL ((m.filter q).map G)
  | [] => rfl
  | k :: m => by
    have ih := sizeL_split G h hd m
    have hk := h k
    have hdk := hd k
    rcases hp : p k with _ | _ <;> rcases hq : q k with _ | _ <;> simp [hp, hq] at hk hdk <;> simp [hp, hq, hk, sizeL] <;> omega
/-- What grows out of all parts from s on whose upper one lies ahead of s is all of them. -/
theorem grow_sizes (l : List Pa) : ∀ (m s : Nat), s + m = l.length → 1 ≤ s → sizeL (((List.range' s m).filter (fun k => decide (upL l k < s))).map (growT l)) ≤ m
  | 0, _, _, _ => by simp [sizeL]
  | m + 1, s, h, h1 => by
    have hs : s < l.length := by omega
    have ih := grow_sizes l m (s + 1) (by omega) (by omega)
    have hup : upL l s < s := by
      rw [upL_at hs]
      unfold upN
      have := Int.natAbs_tmod l[s].up (s : Int)
      rw [this, Int.natAbs_natCast]
      exact Nat.mod_lt _ (by omega)
    rw [sizeL_split (p := fun k => decide (upL l k < s)) (q := kidI l s) (growT l) (fun k => by simp only [kidI]; rw [Bool.eq_iff_iff]; simp; omega) (fun k hk => by simp only [kidI, decide_eq_true_eq] at hk ⊢; simp; omega)] at ih
    rw [List.range'_succ, List.filter_cons, if_pos (by simpa using hup), List.map_cons, sizeL, growT_eq hs, T.size]
    unfold kidsTo
    rw [show l.length - (s + 1) = m from by omega]
    omega
theorem grow_size {l : List Pa} (h : 0 < l.length) : (growT l 0).size ≤ l.length := by
  have h1 := grow_sizes l (l.length - 1) 1 (by omega) (by omega)
  rw [growT_eq h, T.size]
  unfold kidsTo
  have e : kidI l 0 = fun k => decide (upL l k < 1) := by
    funext k
    rw [Bool.eq_iff_iff]
    simp [kidI]
  rw [e, Nat.zero_add]
  omega

/-! A row of nodes that are trees. -/
def Tr (w : World) (B : Nat → Prop) (t : T) (nd : Nd) : Prop := ∃ ks, TV w B nd ks ∧ nd.t ks = t
def Trs (w : World) (B : Nat → Prop) : List T → List Nd → Prop
  | [], nds => nds = []
  | t :: ts, nds => ∃ nd rest, nds = nd :: rest ∧ Tr w B t nd ∧ Trs w B ts rest
theorem Tr.kept {w w' : World} {B B' : Nat → Prop} {t : T} {nd : Nd} (h : Tr w B t nd) (hk : ∀ g, B g → g < w.heap.size → w'.heap[g]? = w.heap[g]?) (hB : ∀ g, B g → g < w.heap.size → B' g) : Tr w' B' t nd := by
  obtain ⟨ks, h1, h2⟩ := h
  exact ⟨ks, h1.kept hk hB, h2⟩
theorem Trs.kept {w w' : World} {B B' : Nat → Prop} (hk : ∀ g, B g → g < w.heap.size → w'.heap[g]? = w.heap[g]?) (hB : ∀ g, B g → g < w.heap.size → B' g) : ∀ {ts : List T} {nds : List Nd}, Trs w B ts nds → Trs w' B' ts nds
  | [], _, h => h
  | t :: ts, nds, h => by
    obtain ⟨nd, rest, h1, h2, h3⟩ := h
    exact ⟨nd, rest, h1, h2.kept hk hB, Trs.kept hk hB h3⟩
theorem Trs.len {w : World} {B : Nat → Prop} : ∀ {ts : List T} {nds : List Nd}, Trs w B ts nds → nds.length = ts.length
  | [], nds, h => by rw [show nds = [] from h]; rfl
  | t :: ts, nds, h => by
    obtain ⟨nd, rest, h1, _, h3⟩ := h
    rw [h1, List.length_cons, h3.len, List.length_cons]
theorem Trs.snoc {w : World} {B : Nat → Prop} {t : T} {nd : Nd} (h : Tr w B t nd) : ∀ {ts : List T} {nds : List Nd}, Trs w B ts nds → Trs w B (ts ++ [t]) (nds ++ [nd])
  | [], nds, h2 => by
    rw [show nds = [] from h2]
    exact ⟨nd, [], rfl, h, rfl⟩
  | u :: ts, nds, h2 => by
    obtain ⟨x, rest, h3, h4, h5⟩ := h2
    subst h3
    exact ⟨x, rest ++ [nd], rfl, h4, h5.snoc h⟩
theorem row_nodes {w : World} {ty : TypeId} {base g c n : Nat} {nds : List Nd} (h : w.ownsRow base ty 4 (.slice (some ⟨g, 0, none⟩) n c) n (ndRow nds)) (hn : nds.length = n) (k : Nat) (hk : k < nds.length) : NodeAt w g (k * 4) nds[k] := by
  have q : ∀ j, j < 4 → w.cell? ⟨g, k * 4 + j, none⟩ = nds[k].vals[j]? := fun j hj => by
    rw [h.cellAt (k * 4 + j) (by omega), ndRow_get _ k j hk hj]
  exact ⟨q 0 (by omega), q 1 (by omega), q 2 (by omega), q 3 (by omega)⟩
/-- The trees of a row, each node with its place. -/
theorem Trs.lay {w : World} {B : Nat → Prop} {g : Nat} : ∀ {ts : List T} {nds : List Nd} (o : Nat), Trs w B ts nds → (∀ k (hk : k < nds.length), NodeAt w g (o + k * 4) nds[k]) → B g →
    ∃ ks : List AT, erL ks = ts ∧ MemL w B ks ∧ ks.length = nds.length ∧ ∀ (i : Nat) (h : i < ks.length), ks[i].g = g ∧ ks[i].o = o + i * 4
  | [], nds, o, h, _, _ => by
    rw [show nds = [] from h]
    exact ⟨[], by rw [erL], MemL.nil _ _, rfl, fun i h => by simp at h⟩
  | t :: ts, nds, o, h, hn, hg => by
    obtain ⟨nd, rest, rfl, ⟨kk, h1, h2⟩, h3⟩ := h
    obtain ⟨ks, i1, i2, i3, i4⟩ := Trs.lay (o + 4) h3 (fun k hk => by
      have := hn (k + 1) (by simpa using hk)
      simp only [List.getElem_cons_succ] at this
      rw [show o + 4 + k * 4 = o + (k + 1) * 4 from by omega]; exact this) hg
    have h0 := hn 0 (by simp)
    simp only [List.getElem_cons_zero, Nat.zero_mul, Nat.add_zero] at h0
    refine ⟨nd.at g o kk :: ks, ?_, MemL.cons.2 ⟨h1.at hg h0, i2⟩, by simp [i3], fun i hi => ?_⟩
    · rw [erL, i1, ← h2]
      simp [Nd.at, er, Nd.t]
    · cases i with
      | zero => exact ⟨rfl, by simp [Nd.at, AT.o]⟩
      | succ i =>
        have := i4 i (by simpa using hi)
        simp only [List.getElem_cons_succ]
        exact ⟨this.1, by rw [this.2]; omega⟩
theorem gather {w : World} {ty : TypeId} {base n c : Nat} {B B' : Nat → Prop} {v : Value} {p : Option Addr} {ts : List T} {nds : List Nd} (hv : v = .slice p n c) (h : w.ownsRow base ty 4 v n (ndRow nds)) (hn : nds.length = n) (ht : Trs w B ts nds) (hB : ∀ g, B g → g < w.heap.size → B' g) (hr : ∀ g, v.ownBlock = some g → B' g) (op tx : ByteArray) (pl : Int) :
    ∃ ks : List AT, TV w B' ⟨op, tx, pl, p, n, c⟩ ks ∧ erL ks = ts := by
  subst hv
  have ht' : Trs w B' ts nds := ht.kept (fun _ _ _ => rfl) hB
  rcases h.2 with ⟨h1, h0⟩ | ⟨g, cap, cur, h1, _⟩
  · have e : nds = [] := List.length_eq_zero_iff.1 (by omega)
    subst e
    have hl := ht.len
    have e2 : ts = [] := List.length_eq_zero_iff.1 (by simpa using hl.symm)
    subst e2
    exact ⟨[], ⟨by simp at hn; simp; omega, .inl rfl, MemL.nil _ _⟩, by rw [erL]⟩
  · injection h1 with e1 e2 e3
    subst e1 e3
    obtain ⟨ks, i1, i2, i3, i4⟩ := Trs.lay (w := w) (B := B') (g := g) 0 ht' (fun k hk => by rw [Nat.zero_add]; exact row_nodes h hn k hk) (hr g rfl)
    exact ⟨ks, ⟨by show n = ks.length; omega, .inr ⟨g, 0, rfl, i4⟩, i2⟩, i1⟩
end Go.Proofs.YtgahamppfdhnaaaDoor
