/-
  MATHEMATICS of the law ScribeKept: pieces of things, what is gone through of them; rows of rows of things; a footprint that spares the Writer.
-/
import Derived.Test.YtjlkdglbnfifeaaGreatDoorPartsM
import Derived.Test.YtjlkdglbnfifeaaGreatDoorDjKeepL
import Derived.Deep.Slices
import Derived.ChangeSame
import Derived.Carry
import Derived.OpenShut
namespace Go.Proofs.YtjlkdglbnfifeaaGreatDoor
open Go.ChangeShapes Go.WideShapes Go.RowKit Go.Deep

/-- A thing as the law writes it. -/
def nz (t : Pk.Th) : Pk.Th := if t.k = 1 then t else ⟨2, t.n, Pk.cutB t.s 100⟩
theorem nz_k (t : Pk.Th) : (nz t).k = 1 ∨ (nz t).k = 2 := by
  unfold nz; split
  · rename_i h; exact .inl h
  · exact .inr rfl
theorem takes_enc {t : Pk.Th} (hk : t.k = 1 ∨ t.k = 2) (hsm : t.small) : Pk.Takes t.enc := by
  refine ⟨?_, fun s i R hA hz => ?_⟩
  · obtain ⟨c, l, h, _⟩ := Pk.enc_head hk
    rw [h]; simp
  · unfold Pk.skS
    exact Pk.skP_enc hk hsm hA
def pcs (l : List Pk.Th) (k : Nat) : List (List UInt8) := (l.take k).map (fun t => (nz t).enc)
theorem pcs_snoc {l : List Pk.Th} {k : Nat} (h : k < l.length) : (pcs l (k + 1)).flatten = (pcs l k).flatten ++ (nz l[k]).enc := by
  unfold pcs
  rw [List.take_succ_eq_append_getElem h, List.map_append, List.flatten_append]
  simp
/-- The text's bytes are those of pieces that are gone through. -/
structure Pz (T : ByteArray) : Prop where
  ex : ∃ R : List (List UInt8), T.data.toList = R.flatten ∧ ∀ P ∈ R, Pk.Takes P
  size : T.size ≤ 3000
theorem enc_len1 {t : Pk.Th} (h : t.ok) : (nz t).enc.length ≤ 300 := by
  unfold nz
  split
  · rename_i h1
    have : t.enc = Pk.intL t.n := by unfold Pk.Th.enc; rw [if_pos h1]
    rw [this]
    have := (Pk.itoa_len t.n h.1 h.2.1).2
    simp [Pk.intL]; omega
  · exact Pk.enc_len (t := ⟨2, t.n, Pk.cutB t.s 100⟩) ⟨h.1, h.2.1, Nat.le_trans (Pk.cutB_size _ _) (by omega)⟩
theorem takes_nz {t : Pk.Th} (h : t.ok) : Pk.Takes (nz t).enc := by
  unfold nz
  split
  · rename_i h1
    have e : t.enc = (⟨1, t.n, ⟨#[]⟩⟩ : Pk.Th).enc := by unfold Pk.Th.enc; rw [if_pos h1]; rfl
    rw [e]
    exact takes_enc (.inl rfl) ⟨h.1, h.2.1, by show (0 : Nat) ≤ 200; omega⟩
  · exact takes_enc (.inr rfl) ⟨h.1, h.2.1, Nat.le_trans (Pk.cutB_size _ _) (by omega)⟩
theorem pcs_len {l : List Pk.Th} (h : ∀ t ∈ l, t.ok) : ∀ k, (pcs l k).flatten.length ≤ 300 * k := by
  intro k
  induction k with
  | zero => simp [pcs]
  | succ k ih =>
    by_cases hk : k < l.length
    · rw [pcs_snoc hk, List.length_append]
      have := enc_len1 (h _ (List.getElem_mem hk))
      omega
    · have e : pcs l (k + 1) = pcs l k := by unfold pcs; rw [List.take_of_length_le (by omega), List.take_of_length_le (by omega)]
      rw [e]; omega
theorem pz_pcs {l : List Pk.Th} (h : ∀ t ∈ l, t.ok) {k : Nat} (hk : k ≤ 10) {T : ByteArray} (hT : T.data.toList = (pcs l k).flatten) : Pz T := by
  refine ⟨⟨_, hT, fun P hP => ?_⟩, ?_⟩
  · obtain ⟨t, ht, rfl⟩ := List.mem_map.1 hP
    exact takes_nz (h t (List.mem_of_mem_take ht))
  · have h1 := pcs_len h k
    have h2 : T.data.toList.length = T.size := by simp
    rw [← h2, hT]; omega
theorem pz_nil : Pz ⟨#[]⟩ := ⟨⟨[], rfl, fun P h => by simp at h⟩, by decide⟩
theorem sum_offs : ∀ (l : List (List UInt8)) (i : Nat), ((Pk.offs i l).map (fun x => x.2.size)).sum = l.flatten.length := by
  intro l
  induction l with
  | nil => intro i; rfl
  | cons P l ih =>
    intro i
    simp only [Pk.offs, List.map_cons, List.sum_cons, ih, List.flatten_cons, List.length_append]
    rfl
/-- What is gone through of such a text is all of it. -/
theorem Pz.total {T : ByteArray} (h : Pz T) : ((Pk.things T).map (fun x => x.2.size)).sum = T.size := by
  obtain ⟨⟨R, hR, hT⟩, hz⟩ := h
  rw [Pk.things_pieces T R (by omega) hT hR, sum_offs, ← hR]
  simp
theorem sum_prefix {xs ys : List (Nat × ByteArray)} (h : xs <+: ys) : (xs.map (fun x => x.2.size)).sum ≤ (ys.map (fun x => x.2.size)).sum := by
  obtain ⟨t, rfl⟩ := h
  simp

/-- A row of rows of things in memory, behind p. -/
def LsAt (w : World) (p : Option Addr) (ls : List (List Pk.Th)) : Prop :=
  ∀ i (h : i < ls.length), ∃ a, p = some a ∧ a.block < w.heap.size ∧ ∃ q c, w.cell? (a.add i) = some (.slice q ls[i].length c) ∧ Pk.ThAt w q ls[i]
theorem addL_block (a : Addr) (n : Nat) : (a.add n).block = a.block := by unfold Addr.add; split <;> rfl
theorem LsAt.below {w w' : World} {p : Option Addr} {ls : List (List Pk.Th)} (h : LsAt w p ls) (hb : Below w.heap.size w w') : LsAt w' p ls := fun i hi => by
  obtain ⟨a, h1, h2, q, c, h3, h4⟩ := h i hi
  exact ⟨a, h1, Nat.lt_of_lt_of_le h2 hb.size, q, c, (hb.cell (p := a.add i) (by rw [addL_block]; exact h2)).trans h3, h4.below hb⟩
theorem wf_boundsK {n : Int} (h : (Lit.int .i64 n).wf = true) : -9223372036854775808 ≤ n ∧ n ≤ 9223372036854775807 := by
  simp [Lit.wf, IntKind.min, IntKind.max, IntKind.signed, IntKind.bits] at h
  exact h
instance : Inhabited Pk.Th := ⟨⟨0, 0, ⟨#[]⟩⟩⟩
section
variable {H : Type} {enc : TypeId × Value → H} {w : World} {base : Nat} {spare : Nat → Bool} {held : Bool}
set_option maxRecDepth 100000 in
theorem trod_thingK {a : Addr} {cs : List Value} {n : Nat} {x : DataW H × List MemPlace} (hc : w.cells? base a (Tryz.prog.cellsOf 32) = some cs) (h : DataW.trod enc Tryz.prog w base spare held n 32 cs = some x) :
    ∃ t : Pk.Th, t.ok ∧ a.block < w.heap.size ∧ w.cell? a = some (.int .i64 t.k) ∧ w.cell? ⟨a.block, a.off + 1, none⟩ = some (.int .i64 t.n) ∧ w.cell? ⟨a.block, a.off + 2, none⟩ = some (.string t.s) := by
  have hC : Tryz.prog.cellsOf 32 = 3 := by kernel_rfl
  have hI : Tryz.prog.cellsOf 3 = 1 := by kernel_rfl
  have hS : Tryz.prog.cellsOf 9 = 1 := by kernel_rfl
  rw [hC] at hc
  obtain ⟨_, hcl, hat⟩ := World.cells?_some hc
  obtain ⟨xs, m, _, _, _, hlen, hf⟩ := DataW.trod_struct Tryz.underlying32 h
  match cs, hcl, xs, hlen with
  | [c0, c1, c2], _, [x0, x1, x2], _ =>
    have f0 : DataW.trod enc Tryz.prog w base spare held m 3 (List.take (Tryz.prog.cellsOf 3) [c0, c1, c2]) = some x0 := hf 0 _ rfl
    have f1 : DataW.trod enc Tryz.prog w base spare held m 3 (List.take (Tryz.prog.cellsOf 3) [c1, c2]) = some x1 := hf 1 _ rfl
    have f2 : DataW.trod enc Tryz.prog w base spare held m 9 (List.take (Tryz.prog.cellsOf 9) [c2]) = some x2 := hf 2 _ rfl
    rw [hI] at f0 f1
    rw [hS] at f2
    obtain ⟨k, hk, _, hkw⟩ := DataW.trod_int Tryz.underlying3 f0
    obtain ⟨v, hv, _, hvw⟩ := DataW.trod_int Tryz.underlying3 f1
    obtain ⟨s, hs, _, hsz⟩ := DataW.trod_string Tryz.underlying9 f2
    obtain rfl : c0 = .int .i64 k := by simpa using hk
    obtain rfl : c1 = .int .i64 v := by simpa using hv
    obtain rfl : c2 = .string s := by simpa using hs
    have hb := wf_boundsK hvw
    exact ⟨⟨k, v, s⟩, ⟨hb.1, hb.2, hsz⟩, World.block_lt_of_cell? _ _ (hat 0 (by omega)), hat 0 (by omega), hat 1 (by omega), hat 2 (by omega)⟩
set_option maxRecDepth 100000 in
theorem things_cs {q : Value} {n : Nat} {x : DataW H × List MemPlace} (h : DataW.trod enc Tryz.prog w base spare held n 30 [q] = some x) :
    ∃ (l : List Pk.Th) (p : Option Addr) (cap : Nat), q = .slice p l.length cap ∧ Pk.ThAt w p l ∧ l.length ≤ maxLen ∧ ∀ t ∈ l, t.ok := by
  have hC : Tryz.prog.cellsOf 32 = 3 := by kernel_rfl
  rcases open_slice Tryz.underlying30 h with ⟨hcs, _⟩ | ⟨a, len, cap, m, n', D, Pl, hcs, hb, hl, hm, hmm, hx, hi⟩
  · obtain rfl : q = .slice none 0 0 := by simpa using hcs
    exact ⟨[], none, 0, rfl, fun i h => absurd h (by simp), Nat.zero_le _, fun t h => absurd h (by simp)⟩
  · obtain rfl : q = .slice (some a) len cap := by simpa using hcs
    have hlm : len ≤ m := by rw [hmm]; split <;> omega
    obtain ⟨T, hT⟩ := choose_lt (α := Pk.Th) (n := len) (p := fun i t => t.ok ∧ (a.add (i * 3)).block < w.heap.size ∧ w.cell? (a.add (i * 3)) = some (.int .i64 t.k) ∧ w.cell? ⟨(a.add (i * 3)).block, (a.add (i * 3)).off + 1, none⟩ = some (.int .i64 t.n) ∧ w.cell? ⟨(a.add (i * 3)).block, (a.add (i * 3)).off + 2, none⟩ = some (.string t.s)) (fun i hi' => by
      obtain ⟨cs, hc, ht⟩ := hi i (by omega)
      have := trod_thingK hc ht
      rwa [hC] at this)
    refine ⟨(List.range len).map T, some a, cap, by simp, fun i hi' => ?_, by simp; omega, fun t ht => ?_⟩
    · have hi2 : i < len := by simpa using hi'
      obtain ⟨_, h2, h3, h4, h5⟩ := hT i hi2
      have e : (a.add (i * 3)).block = a.block := addL_block a _
      refine ⟨a, rfl, by rw [← e]; exact h2, ?_⟩
      simp only [List.getElem_map, List.getElem_range]
      exact ⟨h3, h4, h5⟩
    · obtain ⟨i, hi', rfl⟩ := List.mem_map.1 ht
      exact (hT i (by simpa using hi')).1
set_option maxRecDepth 100000 in
theorem open_lists {r : Reach} {b0 : Nat} {v : Value} {d : DataW H} {ps : List MemPlace} (hv : Value.okWide Tryz.prog w r b0 22 v) (h : DataW.Trod enc Tryz.prog w base spare held 22 v d ps) :
    ∃ (q : Option Addr) (cap : Nat) (ls : List (List Pk.Th)), v = .slice q ls.length cap ∧ LsAt w q ls ∧ ls.length ≤ maxLen ∧ (∀ l ∈ ls, l.length ≤ maxLen) ∧ ∀ l ∈ ls, ∀ t ∈ l, t.ok := by
  obtain ⟨a0, len, cap, rfl⟩ := okWide_slice Tryz.underlying22 hv
  obtain ⟨fuel, hf⟩ := h
  have hC : Tryz.prog.cellsOf 30 = 1 := by kernel_rfl
  rcases open_slice1 Tryz.underlying22 hC hf with ⟨hcs, _⟩ | ⟨a, len', cap', m, n, V, D, Pl, hcs, hb, hl, hm, hmm, hx, hi⟩
  · simp [Value.cells] at hcs
    obtain ⟨rfl, rfl, rfl⟩ := hcs
    exact ⟨none, 0, [], rfl, fun i h => absurd h (by simp), Nat.zero_le _, fun t h => absurd h (by simp), fun t h => absurd h (by simp)⟩
  · simp [Value.cells] at hcs
    obtain ⟨rfl, rfl, rfl⟩ := hcs
    have hlm : len ≤ m := by rw [hmm]; split <;> omega
    obtain ⟨T, hT⟩ := choose_lt (α := List Pk.Th) (n := len) (p := fun i l => (a.add i).block < w.heap.size ∧ (∃ q c, w.cell? (a.add i) = some (.slice q l.length c) ∧ Pk.ThAt w q l) ∧ l.length ≤ maxLen ∧ ∀ t ∈ l, t.ok) (fun i hi' => by
      obtain ⟨h1, h2⟩ := hi i (by omega)
      obtain ⟨l, p, c, e, h3, h4, h5⟩ := things_cs h2
      exact ⟨l, World.block_lt_of_cell? _ _ h1, ⟨p, c, by rw [h1, e], h3⟩, h4, h5⟩)
    refine ⟨some a, cap, (List.range len).map T, by simp, fun i hi' => ?_, by simp; omega, fun l hl' => ?_, fun l hl' => ?_⟩
    · have hi2 : i < len := by simpa using hi'
      obtain ⟨h2, ⟨q, c, h3, h4⟩, _, _⟩ := hT i hi2
      have e : (a.add i).block = a.block := addL_block a _
      simp only [List.getElem_map, List.getElem_range]
      exact ⟨a, rfl, by rw [← e]; exact h2, q, c, h3, h4⟩
    · obtain ⟨i, hi', rfl⟩ := List.mem_map.1 hl'
      exact (hT i (by simpa using hi')).2.2.1
    · obtain ⟨i, hi', rfl⟩ := List.mem_map.1 hl'
      exact (hT i (by simpa using hi')).2.2.2
end
/-- The Writer stands where its blocks do. -/
theorem wr_oth {Fq : Nat → Prop} {w w' : World} {b B : Nat} {l : List UInt8} (h : Pk.Wr w b B l) (ho : Oth Fq w w') (hn : ∀ k, b ≤ k → k < w.heap.size → ¬ Fq k) : Pk.Wr w' b B l := by
  obtain ⟨v, hc, hf, hown, hb, hB⟩ := h
  have hlt := World.block_lt_of_cell? _ _ hc
  have hk := ho.block b hlt (hn b (Nat.le_refl _) hlt)
  refine ⟨v, (World.cell?_of_block (a := ⟨b, 0, none⟩) hk).trans hc, (World.frozen?_of_block (a := ⟨b, 0, none⟩) hk).trans hf, ?_, hb, Nat.le_trans hB ho.size⟩
  refine ⟨hown.1, ?_⟩
  rcases hown.2 with h0 | ⟨g, cap, cur, e, h1, h2, h3⟩
  · exact .inl h0
  · have hg := (Array.getElem?_eq_some_iff.1 h2).1
    exact .inr ⟨g, cap, cur, e, h1, (ho.block g hg (hn g (by omega) hg)).trans h2, h3⟩
end Go.Proofs.YtjlkdglbnfifeaaGreatDoor
