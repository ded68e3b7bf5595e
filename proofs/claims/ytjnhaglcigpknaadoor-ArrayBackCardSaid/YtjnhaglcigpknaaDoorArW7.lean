/-
  CONTRACTS of layer 8's calls, seen from outside: an array that is all new beside a world w0.
-/
import Derived.Test.YtjnhaglcigpknaaDoorArKeys
import Derived.Test.YtjnhaglcigpknaaDoorArW6
namespace Go.Proofs.YtjnhaglcigpknaaDoor
open Go.RowKit Go.Maps

/-- In a world that differs from w0 by what is new alone an array lies in new blocks. -/
structure AA (w0 : World) (W : World) (b : Nat) (P : List Pr) : Prop where
  bel : Below w0.heap.size w0 W
  af : AF (fun k => w0.heap.size ≤ k) W b P
theorem AA.next {w0 W W' : World} {b : Nat} {P : List Pr} (h : AA w0 W b P) (hb : Below W.heap.size W W') : AA w0 W' b P :=
  ⟨h.bel.trans (hb.mono h.bel.size), h.af.next hb⟩
theorem AA.se {w0 W W' : World} {b : Nat} {P Q : List Pr} (h : AA w0 W b P) (hs : SeR (fun k => w0.heap.size ≤ k) W b Q W') : AA w0 W' b Q :=
  ⟨h.bel.trans (hs.2.below (fun _ hk => hk) h.bel.size), hs.1.mono fun _ _ hk => hk.elim id fun hk => Nat.le_trans h.bel.size hk⟩
theorem AA.del {w0 W W' : World} {b : Nat} {P Q : List Pr} (h : AA w0 W b P) (hs : delR (fun k => w0.heap.size ≤ k) W b Q W') : AA w0 W' b Q :=
  ⟨h.bel.trans (hs.2.below (fun _ hk => hk) h.bel.size), hs.1⟩
theorem AA.new (w : World) : AA w (w.alloc (.cells #[.map none, .pointer none, .pointer none] 43)) w.heap.size [] := by
  refine ⟨(Below.refl _ _).alloc (Nat.le_refl _) _, none, [], ⟨?_, ?_, ?_, ?_, ?_, ?_⟩, rfl, ?_⟩
  · exact heap_new _ _
  · trivial
  · rfl
  · simp
  · simp
  · simp
  · rintro k (rfl | hk | ⟨e, he, _⟩)
    · exact Nat.le_refl _
    · cases hk
    · cases he
section
variable {w0 W : World} {b : Nat} {P : List Pr}
theorem AA.set (h : AA w0 W b P) (s : ByteArray) (hs : s.size ≤ 1000000) (k n : Int) (x : ByteArray) (hx : x.size ≤ 1000000) (hl : P.length + 1 ≤ 1000) :
    Calls Tryd.prog 16 #[.pointer (some ⟨b, 0, none⟩), .string s, .agg #[.int .i64 k, .int .i64 n, .string x]] W fun e W' => e = .returned (.tuple #[]) ∧ AA w0 W' b (putP P s ⟨k, n, x⟩) :=
  (aset_any h.af s hs ⟨k, n, x⟩ hx hl).mono fun _ _ ⟨h1, h2⟩ => ⟨h1, h.se h2⟩
theorem AA.at (h : AA w0 W b P) (s : ByteArray) (hs : s.size ≤ 1000000) (hl : P.length + 1 ≤ 1000) (hv : ∀ p ∈ P, p.2.s.size ≤ 1000000) :
    Calls Tryd.prog 28 #[.pointer (some ⟨b, 0, none⟩), .string s] W fun e W' => ∃ c : Ce, e = .returned (.agg #[.int .i64 c.k, .int .i64 c.n, .string c.s]) ∧ AA w0 W' b (putP P s c) ∧ ((s, c) ∈ P ∨ ((∀ p ∈ P, p.1.data.toList ≠ s.data.toList) ∧ c = zc)) :=
  (aat_any h.af s hs hl hv).mono fun _ _ ⟨c, h1, h2, h3⟩ => ⟨c, h1, h.se h2, h3⟩
theorem AA.delete (h : AA w0 W b P) (s : ByteArray) (hs : s.size ≤ 1000000) :
    Calls Tryd.prog 13 #[.pointer (some ⟨b, 0, none⟩), .string s] W fun e W' => e = .returned (.tuple #[]) ∧ AA w0 W' b (delP P s) :=
  (adel_any h.af s hs).mono fun _ _ ⟨h1, h2⟩ => ⟨h1, h.del h2⟩
def hasP (P : List Pr) (s : ByteArray) : Bool := P.any fun p => p.1.data.toList == s.data.toList
theorem fnd_has (L : List En) (s : ByteArray) : (fnd L s.data.toList).isSome = hasP (cont L) s := by
  induction L with
  | nil => rfl
  | cons e L ih =>
    rw [fnd_cons]
    by_cases h : e.nm = s.data.toList
    · rw [if_pos h]
      have h2 : e.key.data = s.data := Array.toList_inj.1 h
      simp [hasP, cont, h2]
    · rw [if_neg h, ih]
      have h2 : ¬ e.key.data = s.data := fun q => h (congrArg Array.toList q)
      simp [hasP, cont, h2]
theorem AA.has (h : AA w0 W b P) (s : ByteArray) (hs : s.size ≤ 1000000) :
    Calls Tryd.prog 41 #[.pointer (some ⟨b, 0, none⟩), .string s] W fun e W' => e = .returned (.bool (hasP P s)) ∧ Below W.heap.size W W' := by
  obtain ⟨mm, L, h1, rfl, _⟩ := h.af
  rw [← fnd_has]
  exact has_any h1 s hs
theorem AA.len (h : AA w0 W b P) :
    Calls Tryd.prog 10 #[.pointer (some ⟨b, 0, none⟩)] W fun e W' => e = .returned (.int .i64 (P.length : Int)) ∧ Below W.heap.size W W' := by
  obtain ⟨mm, L, h1, rfl, _⟩ := h.af
  rw [cont_len]
  exact len_any h1
theorem AA.keys (h : AA w0 W b P) (hs : ∀ p ∈ P, p.1.size ≤ 1000000) :
    Calls Tryd.prog 29 #[.pointer (some ⟨b, 0, none⟩)] W (KyPost (P.map Prod.fst) W) := by
  obtain ⟨mm, L, h1, rfl, _⟩ := h.af
  have e : (cont L).map Prod.fst = L.map En.key := by simp [cont]
  rw [e]
  exact keys_any h1 fun x hx => hs (x.key, x.c) (by simp only [cont, List.mem_map]; exact ⟨x, hx, rfl⟩)
theorem AA.few (h : AA w0 W b P) : P.length ≤ 1000 := by
  obtain ⟨mm, L, h1, rfl, _⟩ := h.af
  rw [cont_len]; exact h1.few
end
end Go.Proofs.YtjnhaglcigpknaaDoor
