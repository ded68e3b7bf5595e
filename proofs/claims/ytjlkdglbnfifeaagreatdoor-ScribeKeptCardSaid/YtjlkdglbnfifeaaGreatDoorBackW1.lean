/-
  THE WALK of the law PackBack, its parts: the row of things that the call gathers, lists' depths.
-/
import Derived.Test.YtjlkdglbnfifeaaGreatDoorBackM
import Derived.Maps.AppendAt
namespace Go.Proofs.YtjlkdglbnfifeaaGreatDoor.Pk
open Go.RowKit

/-- How much deeper a thing leads. -/
def Th.dlt (t : Th) : Int := if t.k = 3 then 1 else if t.k = 4 then -1 else 0
def dep (l : List Th) : Int := (l.map Th.dlt).sum
theorem dep_snoc (l : List Th) (t : Th) : dep (l ++ [t]) = dep l + t.dlt := by simp [dep]
theorem dlt_le (t : Th) : -1 ≤ t.dlt ∧ t.dlt ≤ 1 := by unfold Th.dlt; split <;> (try split) <;> omega
/-- Things that are written and read back: each of a kind from 1 to 4, no list ended that isn't begun. -/
structure Good (l : List Th) : Prop where
  kind : ∀ t ∈ l, 1 ≤ t.k ∧ t.k ≤ 4 ∧ t.small
  deep : ∀ m, m ≤ l.length → 0 ≤ dep (l.take m) ∧ dep (l.take m) ≤ m
theorem Good.nil : Good [] := ⟨fun t h => absurd h (by simp), fun m h => by simp at h; subst h; simp [dep]⟩
theorem Good.snoc {l : List Th} {t : Th} (h : Good l) (h1 : 1 ≤ t.k) (h4 : t.k ≤ 4) (hs : t.small) (h0 : 0 ≤ dep l + t.dlt) : Good (l ++ [t]) := by
  refine ⟨fun u hu => ?_, fun m hm => ?_⟩
  · rcases List.mem_append.1 hu with hu | hu
    · exact h.kind u hu
    · obtain rfl : u = t := by simpa using hu
      exact ⟨h1, h4, hs⟩
  · rcases Nat.lt_or_ge m (l.length + 1) with h2 | h2
    · rw [List.take_append_of_le_length (by omega)]
      exact h.deep m (by omega)
    · obtain rfl : m = (l ++ [t]).length := by simp at hm ⊢; omega
      rw [List.take_length, dep_snoc]
      have h3 := h.deep l.length (Nat.le_refl _)
      rw [List.take_length] at h3
      have := dlt_le t
      simp; omega
theorem Good.all {l : List Th} (h : Good l) : 0 ≤ dep l ∧ dep l ≤ l.length := by
  have h3 := h.deep l.length (Nat.le_refl _)
  rwa [List.take_length] at h3

/-- A row's block is all that it hangs on. -/
theorem ownsRow_heap {w w' : World} {base : Nat} {e : TypeId} {size g n c m : Nat} {xs : List Value} (h : w.ownsRow base e size (.slice (some ⟨g, 0, none⟩) n c) m xs) (hg : w'.heap[g]? = w.heap[g]?) : w'.ownsRow base e size (.slice (some ⟨g, 0, none⟩) n c) m xs := by
  refine ⟨h.1, ?_⟩
  rcases h.2 with h2 | ⟨g', cap, cur, h1, hB, hgg, hrest⟩
  · exact Or.inl h2
  · refine Or.inr ⟨g', cap, cur, h1, hB, ?_, hrest⟩
    injection h1 with h1 _ _
    injection h1 with h1
    injection h1 with h1
    subst h1
    rw [hg]; exact hgg
theorem ownsRow_kind28 {w : World} {base g n c m : Nat} {xs : List Value} {e : TypeId} {size : Nat} (h : w.ownsRow base e size (.slice (some ⟨g, 0, none⟩) n c) m xs) : base ≤ g ∧ ∃ cs fz, w.heap[g]? = some (.cells cs e fz) := by
  refine ⟨(h.lt g rfl).1, ?_⟩
  rcases h.2 with ⟨h1, _⟩ | ⟨g', cap, cur, h1, hB, hgg, _⟩
  · cases h1
  · injection h1 with h1 _ _
    injection h1 with h1
    injection h1 with h1
    subst h1
    exact ⟨_, _, hgg⟩
/-- The Writer stands where a row of another kind grows. -/
theorem Wr.grown {w w' : World} {b B g : Nat} {l : List UInt8} (h : Wr w b B l) (hk : ∃ cs fz, w.heap[g]? = some (.cells cs 32 fz)) (hb : b ≠ g) (he : ∀ k, k < w.heap.size → k ≠ g → w'.heap[k]? = w.heap[k]?) (hs : w.heap.size ≤ w'.heap.size) : Wr w' b B l := by
  obtain ⟨v, hc, hf, hown, hbB, hB⟩ := h
  have hbe := he b (by omega) hb
  refine ⟨v, (World.cell?_of_block hbe).trans hc, (World.frozen?_of_block hbe).trans hf, ?_, hbB, by omega⟩
  refine ⟨hown.1, ?_⟩
  rcases hown.2 with h2 | ⟨g', cap, cur, h1, hB', hgg, hrest⟩
  · exact Or.inl h2
  · refine Or.inr ⟨g', cap, cur, h1, hB', ?_, hrest⟩
    have hlt : g' < w.heap.size := by
      rcases Nat.lt_or_ge g' w.heap.size with h2 | h2
      · exact h2
      · rw [Array.getElem?_eq_none h2] at hgg; cases hgg
    rw [he g' hlt ?_]
    · exact hgg
    · rintro rfl
      obtain ⟨cs, fz, hcs⟩ := hk
      rw [hcs] at hgg
      cases hgg
theorem heap_lt {w : World} {g : Nat} {o : Obj} (h : w.heap[g]? = some o) : g < w.heap.size := by
  rcases Nat.lt_or_ge g w.heap.size with h2 | h2
  · exact h2
  · rw [Array.getElem?_eq_none h2] at h; cases h
theorem heap_old {w : World} {g : Nat} (h : g < w.heap.size) (o : Obj) : (w.alloc o).heap[g]? = w.heap[g]? := ((Below.refl w.heap.size w).alloc (Nat.le_refl _) o).block g h
/-- What a thing put behind the row of things leaves. -/
theorem gathered {w wr w2 : World} {b g g2 g' n c2 : Nat} {xs : List Value} {l : List UInt8} {o2 : Obj} (t : Th) (hO : wr.ownsRow (b + 1) 32 3 (.slice (some ⟨g2, 0, none⟩) n c2) n xs) (hW : Wr wr b (b + 1) l) (hB : Below b w wr) (hg : g < wr.heap.size) (hne : g2 ≠ g)
    (hgrow : ((wr.alloc (.cells #[.int .i64 t.k, .int .i64 t.n, .string t.s] 32)).alloc o2).grownBy w2 (some g2)) (hat : some g' = some g2 ∨ some g' = some (wr.heap.size + 1 + 1)) :
    Wr w2 b (b + 1) l ∧ Below b w w2 ∧ w2.heap[g]? = wr.heap[g]? ∧ g' ≠ g ∧ w2.cell? ⟨wr.heap.size, 0, none⟩ = some (.int .i64 t.k) ∧ w2.cell? ⟨wr.heap.size, 1, none⟩ = some (.int .i64 t.n) ∧ w2.cell? ⟨wr.heap.size, 2, none⟩ = some (.string t.s) := by
  obtain ⟨hbg, cs, fz, hk⟩ := ownsRow_kind28 hO
  have hg2 := heap_lt hk
  have hs : ((wr.alloc (.cells #[.int .i64 t.k, .int .i64 t.n, .string t.s] 32)).alloc o2).heap.size = wr.heap.size + 2 := by simp
  have hold (k : Nat) (h1 : k < wr.heap.size) (h2 : k ≠ g2) : w2.heap[k]? = wr.heap[k]? := by
    rw [hgrow.block k (by omega) (by simpa using h2), heap_old (by simp; omega), heap_old h1]
  have hsz := hgrow.size
  have hcell (j : Nat) : w2.cell? ⟨wr.heap.size, j, none⟩ = (wr.alloc (.cells #[.int .i64 t.k, .int .i64 t.n, .string t.s] 32)).cell? ⟨wr.heap.size, j, none⟩ :=
    World.cell?_of_block (by
      show w2.heap[wr.heap.size]? = _
      rw [hgrow.block wr.heap.size (by omega) (by simp; omega), heap_old (by simp)])
  refine ⟨hW.grown ⟨cs, fz, hk⟩ (by omega) hold (by omega), ?_, hold g hg (by omega), ?_, ?_, ?_, ?_⟩
  · have := hW.le
    exact ((hB.alloc (by omega) _).alloc (by simp; omega) _).grown hgrow (by omega) (fun k hk => by simp at hk; omega)
  · rcases hat with h | h
    · simp at h; omega
    · simp at h; omega
  · rw [hcell]; simp [go_sem]
  · rw [hcell]; simp [go_sem]
  · rw [hcell]; simp [go_sem]
/-- What a thing that is written leaves of the row of things. -/
theorem after_put {w2 w3 : World} {b g g' n c : Nat} {xs : List Value} (hF : WFr b (b + 1) w2 w3) (hO : w2.ownsRow (b + 1) 32 3 (.slice (some ⟨g', 0, none⟩) n c) n xs) (hg : ∃ cs fz, w2.heap[g]? = some (.cells cs 32 fz)) (hb : b ≠ g) :
    w3.ownsRow (b + 1) 32 3 (.slice (some ⟨g', 0, none⟩) n c) n xs ∧ w3.heap[g]? = w2.heap[g]? := by
  have hk (k : Nat) (hk : ∃ cs fz, w2.heap[k]? = some (.cells cs 32 fz)) (hb : b ≠ k) : w3.heap[k]? = w2.heap[k]? := by
    obtain ⟨cs, fz, hcs⟩ := hk
    rw [hcs]
    exact hF.others k _ hcs (by intro h; injection h; omega) (fun c fz h => by cases h)
  obtain ⟨h1, h2⟩ := ownsRow_kind28 hO
  exact ⟨ownsRow_heap hO (hk g' h2 (by omega)), hk g hg hb⟩
theorem ownsRow_lt {w7 wr : World} {base g n c m : Nat} {xs : List Value} {e : TypeId} {size : Nat} (h : w7.ownsRow base e size (.slice (some ⟨g, 0, none⟩) n c) m xs) (hx : wr.heap[g]? = w7.heap[g]?) : g < wr.heap.size := by
  obtain ⟨_, cs, fz, hk⟩ := ownsRow_kind28 h
  exact heap_lt (hx.trans hk)
end Go.Proofs.YtjlkdglbnfifeaaGreatDoor.Pk
