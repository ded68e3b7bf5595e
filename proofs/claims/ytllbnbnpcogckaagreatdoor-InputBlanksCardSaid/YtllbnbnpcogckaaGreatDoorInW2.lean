/-
  CONTRACTS of layer 16's Split (where one byte parts) and Next, and of what one byte parts: mathematics.
-/
import Derived.Test.YtllbnbnpcogckaaGreatDoorInW1
namespace Go.Proofs.YtllbnbnpcogckaaGreatDoor
open Go.RowKit

/-! What one byte parts. -/
theorem split_small (sep : ByteArray) : ∀ (k : Nat) (s : ByteArray), ∀ f ∈ Lib.splitB sep 0 k s, f.size ≤ s.size
  | 0, s, f, h => by
    rw [Lib.splitB_zero] at h
    obtain rfl : f = s := by simpa using h
    exact Nat.le_refl _
  | k + 1, s, f, h => by
    unfold Lib.splitB at h
    split at h
    · obtain rfl : f = s := by simpa using h
      exact Nat.le_refl _
    · rcases List.mem_cons.1 h with rfl | h
      · simp; omega
      · have := split_small sep k _ f h
        simp at this
        omega
theorem spans_len (p : Nat → Bool) (s : ByteArray) : ∀ (f pos : Nat) (st : Option Nat) (acc : List (Nat × Nat)), (Lib.spansFromP p s f pos st acc).1.length ≤ acc.length + f
  | 0, _, _, _ => Nat.le_refl _
  | f + 1, pos, st, acc => by
    unfold Lib.spansFromP
    split
    · split
      · split
        · rename_i a
          have := spans_len p s f (pos + (Utf8.decode s pos).2) none (acc ++ [(a, pos)])
          rw [List.length_append] at this
          simp at this
          omega
        · have := spans_len p s f (pos + (Utf8.decode s pos).2) none acc
          omega
      · split
        · rename_i a
          have := spans_len p s f (pos + (Utf8.decode s pos).2) (some a) acc
          omega
        · have := spans_len p s f (pos + (Utf8.decode s pos).2) (some pos) acc
          omega
    · simp
theorem fields_len (s sep : ByteArray) (h1 : sep.size = 1) : (fieldsB s sep).length ≤ s.size + 1 := by
  unfold fieldsB
  split
  · simp
  · split
    · unfold Lib.goFieldsP Lib.spansOfP
      rw [List.length_map]
      have := spans_len isB s s.size 0 none []
      unfold Lib.closeSpans
      split <;> simp at this ⊢ <;> omega
    · have := Lib.splitB_all sep (by omega) 0 _ s rfl
      have := Lib.countB_le sep (by omega) s.size s (Nat.le_refl _)
      omega
theorem fields_small (s sep : ByteArray) : ∀ f ∈ fieldsB s sep, f.size ≤ s.size := by
  intro f h
  unfold fieldsB at h
  split at h
  · cases h
  · split at h
    · unfold Lib.goFieldsP at h
      obtain ⟨x, _, rfl⟩ := List.mem_map.1 h
      simp; omega
    · exact split_small sep _ s f h
theorem own_next {w w1 : World} {B n : Nat} {e : TypeId} {k : Nat} {v : Value} {xs : List Value} (h : w.ownsRow B e k v n xs) (hb : Below w.heap.size w w1) : w1.ownsRow B e k v n xs := by
  refine ⟨h.1, ?_⟩
  rcases h.2 with h2 | ⟨g, cap, cur, hv, hg, hh, r⟩
  · exact Or.inl h2
  · exact Or.inr ⟨g, cap, cur, hv, hg, by rw [hb.block g (Array.getElem?_eq_some_iff.1 hh).1]; exact hh, r⟩
theorem own_at {w : World} {B g c n : Nat} {e : TypeId} {l : List ByteArray} (h : w.ownsRow B e 1 (.slice (some ⟨g, 0, none⟩) n c) n (l.map Value.string)) (k : Nat) (hk : k < n) (hl : k < l.length) : w.cell? ⟨g, k, none⟩ = some (.string l[k]) := by
  rw [h.cellAt k (by omega)]
  simp [List.getElem?_eq_getElem hl]
theorem set_same {l : List ByteArray} (k : Nat) (hl : k < l.length) : (l.map Value.string).set k (.string l[k]) = l.map Value.string := by
  apply List.ext_getElem
  · simp
  · intro i h1 h2
    rw [List.getElem_set]
    split
    · subst_vars; simp
    · rfl
set_option maxHeartbeats 1000000 in
theorem isplit_any (s sep : ByteArray) (w : World) (hs : s.size ≤ 4000) (hsep : sep.size = 1) (hn : (fieldsB s sep).length ≤ 500) (G : Gi w) :
    Calls Tryz.prog 11 #[.string s, .string sep, .bool false] w (CtPost (fieldsB s sep) w) := by
  have C := Lib.hid (icut_any s sep w hs hsep G)
  have HS := Lib.hid (fields_small s sep)
  clear G
  generalize fieldsB s sep = l at *
  go_enter Tryz.func11, Tryz.ntmps11
  go_wp2_with fail
  refine C.out.mono ?_
  rintro e w1 ⟨v, rfl, ho, hb⟩
  obtain ⟨p, c, rfl⟩ : ∃ p c, v = .slice p l.length c := by
    rcases ho.2 with ⟨rfl, h0⟩ | ⟨g, cap, cur, rfl, _⟩
    · exact ⟨none, 0, by rw [h0]⟩
    · exact ⟨_, _, rfl⟩
  have hni : ¬ (500 : Int) < (l.length : Int) := by omega
  have HO := Lib.hid (And.intro ho hb)
  clear ho hb C
  go_wp2_with fail
  go_loopw [27] (fun iv wr => ∃ k : Nat, k ≤ l.length ∧ iv = .int .i64 k ∧ Hid (wr.ownsRow w.heap.size 9 1 (.slice p l.length c) l.length (l.map Value.string) ∧ Below w.heap.size w wr)) (fun iv _ => l.length - (intOf iv).toNat)
  case atStart => exact ⟨0, Nat.zero_le _, rfl, HO⟩
  case round =>
    obtain ⟨k, hk, rfl, HX⟩ := hrel
    clear HO
    by_cases hlt : k < l.length
    · have hki : (k : Int) < (l.length : Int) := by omega
      obtain ⟨g, rfl⟩ : ∃ g, p = some ⟨g, 0, none⟩ := by
        rcases HX.out.1.2 with ⟨h1, h0⟩ | ⟨g, cap, cur, h1, _⟩
        · omega
        · injection h1 with h1 _ _; exact ⟨g, h1⟩
      have hsm := HS.out _ (List.getElem_mem hlt)
      have c0 := own_at HX.out.1 k hlt hlt
      have f0 := HX.out.1.frozenAt k
      have CL := Lib.hid fun W => clone_any l[k] W (by omega)
      have HE := Lib.hid (set_same k hlt)
      generalize l[k] = x at *
      clear hsm
      go_wp2_with fail
      refine (CL.out _).mono ?_
      rintro e w2 ⟨rfl, hb2⟩
      have hgl := (HX.out.1.lt g rfl)
      obtain ⟨hc, hf⟩ := bcell hb2
      have HX2 := Lib.hid (And.intro (own_next HX.out.1 hb2) (HX.out.2.trans (hb2.mono HX.out.2.size)))
      have c1 := (hc g k hgl.2).trans c0
      have f1 := (hf g k hgl.2).trans f0
      have hg1 := hgl.1
      clear hb2 HX hc hf c0 f0 hgl CL
      go_wp2_with fail
      have HN : Hid ((w2.setCell ⟨g, k, none⟩ (.string x)).ownsRow w.heap.size 9 1 (.slice (some ⟨g, 0, none⟩) l.length c) l.length (l.map Value.string) ∧ Below w.heap.size w (w2.setCell ⟨g, k, none⟩ (.string x))) :=
        Lib.hid ⟨by have h := (HX2.out.1.stored k (.string x)).1; rw [HE.out] at h; exact h, HX2.out.2.setCell (p := ⟨g, k, none⟩) hg1 _⟩
      go_roundw
      case rel => exact ⟨k + 1, by omega, by go_num, HN⟩
      case measure => simp [intOf]; omega
    · have hki : ¬ (k : Int) < (l.length : Int) := by omega
      go_wp2_with fail
      go_ret2
      exact ⟨_, rfl, HX.out⟩
end Go.Proofs.YtllbnbnpcogckaaGreatDoor
