/-
  CONTRACT of the document's own reader of patterns' parts (scriberef09.alt), the reader of a part as a hypothesis.
-/
import Derived.Test.YtpcnlojlfbgaoaaRqA
import Derived.Test.YtpcnlojlfbgaoaaRgQ
namespace Go.Proofs.Ytpcnlojlfbgaoaa
open Go.RowKit

theorem alt_results (w : World) (b t : Nat) (arr : Array Value) (s : ByteArray) (a dp er bd : Int) (nd : RNd) (h : Ss w b s a dp er bd) (h' : Sn w t nd) (h2 : arr[2]?.getD undef = (.pointer (some ⟨b, 0, none⟩))) (h3 : arr[3]?.getD undef = (.pointer (some ⟨t, 0, none⟩))) :
    (results Try.f13 arr).run Try.prog w = .ok (.tuple #[rsv s a dp er bd, nd.val]) w := by
  obtain ⟨c0, c1, c2, c3, c4, -⟩ := h
  obtain ⟨d0, d1, d2, -⟩ := h'
  simp [results, Try.results13, go_sem, rsv, RNd.val, c0, c1, c2, c3, c4, d0, d1, d2, h2, h3]
theorem catX_len {G : List UInt8 → PR RT} (hG : ∀ l t r, G l = .ok (t, r) → r.length ≤ l.length) {dp : Nat} {l r : List UInt8} {t : RT} (h : catX dp G l = .ok (t, r)) : r.length ≤ l.length := by
  unfold catX at h
  split at h
  · cases h
  · rename_i hp
    split at h
    · cases h
    · cases h; exact rg_partR_len hG hp
/-- What parts are, taken together. -/
def finA (X : PR (List RT)) : PR RT := match X with
  | .error x => .error x
  | .ok (ts, r) => .ok (gatherR 3 ts, r)
def AlSt (w : World) (s : ByteArray) (bd : Int) (dp : Nat) (G : List UInt8 → PR RT) (X : PR RT) (i : Nat) (a er b' : Int) (nds : List RNd) (v : Value) (wr : World) : Prop :=
  (er = 0 ∧ b' = bd ∧ ∃ (q f : Nat) (ts : List RT), a = (q : Int) ∧ i ≤ q ∧ q ≤ s.size ∧ (s.data.toList.drop q).length < f ∧ finA (altLoop dp G f (s.data.toList.drop q) ts) = X ∧ TreesM wr (fun k => w.heap.size + 3 ≤ k ∧ v.ownBlock ≠ some k) ts nds) ∨
  (∃ n0 k : Nat, X = .error (n0, k) ∧ (k = 9 ∨ k = 14) ∧ n0 ≤ s.size ∧ er = (k : Int) ∧ b' = ((s.size - n0 : Nat) : Int))
def AlEnd (w : World) (s : ByteArray) (bd : Int) (X : PR RT) (a er1 b1 : Int) (nds : List RNd) (v : Value) (wr : World) : Prop :=
  (∃ (r : List UInt8) (ts : List RT), er1 = 0 ∧ b1 = bd ∧ X = .ok (gatherR 3 ts, r) ∧ r <:+ s.data.toList ∧ a = ((s.size - r.length : Nat) : Int) ∧ TreesM wr (fun k => w.heap.size + 3 ≤ k ∧ v.ownBlock ≠ some k) ts nds) ∨
  (∃ n0 k : Nat, X = .error (n0, k) ∧ (k = 9 ∨ k = 14) ∧ n0 ≤ s.size ∧ er1 = (k : Int) ∧ b1 = ((s.size - n0 : Nat) : Int))
theorem AlEnd.kept {w : World} {s : ByteArray} {bd : Int} {X : PR RT} {a er1 b1 : Int} {nds : List RNd} {v : Value} {wr w' : World} (h : AlEnd w s bd X a er1 b1 nds v wr) (hk : ∀ g, w.heap.size + 3 ≤ g → g < wr.heap.size → w'.heap[g]? = wr.heap[g]?) : AlEnd w s bd X a er1 b1 nds v w' := by
  rcases h with ⟨r, ts, h1, h2, h3, h4, h5, hT⟩ | h
  · exact .inl ⟨r, ts, h1, h2, h3, h4, h5, TreesM.kept (fun g hg hl => hk g hg.1 hl) (fun g hg _ => hg) ts nds hT⟩
  · exact .inr h
theorem al_last {w wr w' : World} {s : ByteArray} {dp bd : Int} {D : Nat} {X : PR RT} {a er1 b1 : Int} {nds : List RNd} {g m c : Nat} (hm : m = nds.length) (h : AlEnd w s bd X a er1 b1 nds (.slice (some ⟨g, 0, none⟩) m c) wr) (hrow : wr.ownsRow (w.heap.size + 3) 34 3 (.slice (some ⟨g, 0, none⟩) m c) m (rdRow nds)) (ha : 0 ≤ a) (ha2 : a ≤ (s.size : Int) + 4 + D)
    (hk : ∀ g, w.heap.size + 3 ≤ g → w'.heap[g]? = wr.heap[g]?) (hb : Below w.heap.size w w') :
    AxPost s dp bd D X w (.returned (.tuple #[rsv s a dp er1 b1, (gatherM 3 (some ⟨g, 0, none⟩) m c nds).val])) w' := by
  subst hm
  rcases h with ⟨r, ts, rfl, rfl, hX, hr, hae, hT⟩ | ⟨n0, k, hX, hk2, hn, rfl, rfl⟩
  · refine AxPost.mk hX hr hae ?_ hb
    have hrow' : w'.ownsRow 0 34 3 (.slice (some ⟨g, 0, none⟩) nds.length c) nds.length (rdRow nds) := rg_own_less (rg_own_kept hrow (fun k hg => hk k (rg_own_base hrow k hg).1)) (Nat.zero_le _)
    refine gatherM_tree (by decide) hrow' (fun k hg => ?_) (TreesM.kept (fun k hg _ => hk k hg.1) (fun k hg _ => ?_) ts nds hT)
    · have := (rg_own_base hrow k hg).1; omega
    · have := hg.1; omega
  · exact AxPost.no hX hk2 hn ha ha2 rfl hb
/-- What a round finds. -/
theorem al_round {w : World} {s : ByteArray} {dp : Nat} {bd : Int} {G : List UInt8 → PR RT} {X : PR RT} {i : Nat} {a er b' : Int} {nds : List RNd} {v : Value} {wr : World} (hs : s.size ≤ 300) (h : AlSt w s bd dp G X i a er b' nds v wr) :
    ∃ z : Int, (∀ W, Calls Try.prog 20 #[rsv s a (dp : Int) er b'] W fun r w' => r = .returned (.int .i64 z) ∧ Below W.heap.size W w') ∧
      ((z == 124) = false ∧ AlEnd w s bd X a er b' nds v wr ∨
       z = 124 ∧ er = 0 ∧ b' = bd ∧ ∃ (q f : Nat) (ts : List RT), a = (q : Int) ∧ i ≤ q ∧ q < s.size ∧ (s.data.toList.drop (q + 1)).length < f ∧ (match catX dp G (s.data.toList.drop (q + 1)) with | .error x => .error x | .ok (t, r2) => finA (altLoop dp G f r2 (ts ++ [t]))) = X ∧ TreesM wr (fun k => w.heap.size + 3 ≤ k ∧ v.ownBlock ≠ some k) ts nds) := by
  rcases h with ⟨rfl, rfl, q, f, ts, rfl, hiq, hqs, hf, hX, hT⟩ | ⟨n0, k, hX, hk, hn, rfl, rfl⟩
  · obtain ⟨g, rfl⟩ : ∃ g, f = g + 1 := ⟨f - 1, by omega⟩
    have hsg := rsign_ok s q (dp : Int) b' (by omega)
    by_cases hq : q < s.size
    · have hd := rq_drop s q hq
      have hz : sgZ s q = (s[q].toNat : Int) := by unfold sgZ; rw [dif_pos hq]
      rw [hz] at hsg
      have e124 := u8_beq2 s[q] 124
      rw [show (((124 : UInt8).toNat : Nat) : Int) = 124 from rfl] at e124
      by_cases h124 : s[q] = 124
      · refine ⟨124, by rw [h124] at hsg; exact hsg, .inr ⟨rfl, rfl, rfl, q, g, ts, rfl, hiq, hq, by rw [rq_len] at hf ⊢; omega, ?_, hT⟩⟩
        rw [← hX, hd]
        conv => rhs; unfold altLoop
        simp only []
        rw [if_pos h124]
        cases catX dp G (s.data.toList.drop (q + 1)) with
        | error x => rfl
        | ok x => rfl
      · refine ⟨_, hsg, .inl ⟨by rw [e124]; simpa using h124, .inl ⟨s.data.toList.drop q, ts, rfl, rfl, ?_, List.drop_suffix _ _, by rw [rq_len]; omega, hT⟩⟩⟩
        rw [← hX, hd]
        unfold altLoop
        simp only []
        rw [if_neg h124]; rfl
    · have hz : sgZ s q = -1 := by unfold sgZ; rw [dif_neg hq]
      rw [hz] at hsg
      have hd := rq_nil s q hq
      refine ⟨-1, hsg, .inl ⟨by decide, .inl ⟨[], ts, rfl, rfl, ?_, List.nil_suffix, by simp; omega, hT⟩⟩⟩
      rw [← hX, hd]; rfl
  · have he0 : (k : Int) ≠ 0 := by rcases hk with rfl | rfl <;> decide
    exact ⟨-1, rsign_err s a (dp : Int) k _ he0, .inl ⟨by decide, .inr ⟨n0, k, hX, hk, hn, rfl, rfl⟩⟩⟩
/-- Behind a part: where the loop stands. -/
theorem al_next {s : ByteArray} {dp : Nat} {bd : Int} {G : List UInt8 → PR RT} (hG : ∀ l t r, G l = .ok (t, r) → r.length ≤ l.length) {X : PR RT} {B' : Nat → Prop} {p f i : Nat} {ts : List RT} (hp : p ≤ s.size) (hf : (s.data.toList.drop p).length < f) (hi : i ≤ p)
    (hX : (match catX dp G (s.data.toList.drop p) with | .error x => .error x | .ok (t, r2) => finA (altLoop dp G f r2 (ts ++ [t]))) = X) {a er b' : Int} {nd : RNd} {w5 : World}
    (h : (∃ t r, catX dp G (s.data.toList.drop p) = .ok (t, r) ∧ r <:+ s.data.toList ∧ a = ((s.size - r.length : Nat) : Int) ∧ er = 0 ∧ b' = bd ∧ TreeM w5 B' t nd) ∨
     (∃ n0 k : Nat, catX dp G (s.data.toList.drop p) = .error (n0, k) ∧ (k = 9 ∨ k = 14) ∧ n0 ≤ s.size ∧ er = (k : Int) ∧ b' = ((s.size - n0 : Nat) : Int))) :
    (er = 0 ∧ b' = bd ∧ ∃ (q : Nat) (t : RT), a = (q : Int) ∧ i ≤ q ∧ q ≤ s.size ∧ (s.data.toList.drop q).length < f ∧ finA (altLoop dp G f (s.data.toList.drop q) (ts ++ [t])) = X ∧ TreeM w5 B' t nd) ∨
    (∃ n0 k : Nat, X = .error (n0, k) ∧ (k = 9 ∨ k = 14) ∧ n0 ≤ s.size ∧ er = (k : Int) ∧ b' = ((s.size - n0 : Nat) : Int)) := by
  rcases h with ⟨t, r, hC, hr, ha, he, hb, hT⟩ | ⟨n0, k, hC, hk, hn, he, hb⟩
  · have hl := catX_len hG hC
    rw [rq_len] at hl
    have hrd := suffix_drop hr
    rw [hC] at hX
    refine .inl ⟨he, hb, s.size - r.length, t, ha, by omega, by omega, ?_, ?_, hT⟩
    · rw [← hrd]; rw [rq_len] at hf; omega
    · rw [← hrd]; exact hX
  · refine .inr ⟨n0, k, ?_, hk, hn, he, hb⟩
    rw [← hX, hC]
end Go.Proofs.Ytpcnlojlfbgaoaa
