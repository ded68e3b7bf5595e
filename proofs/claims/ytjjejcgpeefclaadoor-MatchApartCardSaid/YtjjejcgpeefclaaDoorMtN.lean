/-
  THE MATHEMATICS of layer 10 (match), the converse: where a tree's leaves run, it leads.
-/
import Derived.Test.YtjjejcgpeefclaaDoorMtM
namespace Go.Proofs.YtjjejcgpeefclaaDoor

/-- A run over parts one behind the other: on the first part's leaves, on the others', or from those to these. -/
theorem Run.split {g : W4 → Nat → Prop} {t : RT} {ts : List RT} {b x i y j : Nat} (h : Run (TksL g (t :: ts) b) (BhdC (t :: ts) b) x i y j) :
    (x < b + leafN t ∧ y < b + leafN t ∧ Run (Tks g t b) (Bhd t b) x i y j) ∨ (b + leafN t ≤ x ∧ b + leafN t ≤ y ∧ Run (TksL g ts (b + leafN t)) (BhdC ts (b + leafN t)) x i y j) ∨
      (x < b + leafN t ∧ b + leafN t ≤ y ∧ ∃ k y1 x2, i < k ∧ k < j ∧ Lst t b 0 y1 ∧ FstC ts (b + leafN t) 0 x2 ∧ Run (Tks g t b) (Bhd t b) x i y1 k ∧ Run (TksL g ts (b + leafN t)) (BhdC ts (b + leafN t)) x2 k y j) := by
  induction h with
  | one h =>
    unfold TksL at h
    rcases h with ⟨h1, h2⟩ | ⟨h1, h2⟩
    · exact .inl ⟨h1, h1, .one h2⟩
    · exact .inr (.inl ⟨h1, h1, .one h2⟩)
  | @more x i z y j h hb hr ih =>
    unfold TksL at h
    unfold BhdC at hb
    have hlt := hr.lt
    rcases h with ⟨h1, h2⟩ | ⟨h1, h2⟩
    · rcases hb with hb | hb | ⟨ha, hb⟩
      · have hz := (Bhd.range t b x z hb).2
        rcases ih with ⟨k1, k2, k3⟩ | ⟨k1, _⟩ | ⟨k1, k2, k, y1, x2, e1, e2, e3, e4, e5, e6⟩
        · exact .inl ⟨h1, k2, .more h2 hb k3⟩
        · omega
        · exact .inr (.inr ⟨h1, k2, k, y1, x2, by omega, e2, e3, e4, .more h2 hb e5, e6⟩)
      · have := BhdC.range ts _ x z hb; omega
      · have hz := FstC.range ts _ 0 z hb
        rcases ih with ⟨k1, _⟩ | ⟨_, k2, k3⟩ | ⟨k1, _⟩
        · omega
        · exact .inr (.inr ⟨h1, k2, i + 1, x, z, by omega, hlt, ha, hb, .one h2, k3⟩)
        · omega
    · rcases hb with hb | hb | ⟨ha, hb⟩
      · have := Bhd.range t b x z hb; omega
      · have hz := (BhdC.range ts _ x z hb).2
        rcases ih with ⟨k1, _⟩ | ⟨_, k2, k3⟩ | ⟨k1, _⟩
        · omega
        · exact .inr (.inl ⟨h1, k2, .more h2 hb k3⟩)
        · omega
      · have := Lst.range t b 0 x ha; omega
/-- A run with links: without one, or up to the first one. -/
theorem Run.links {T B L : Nat → Nat → Prop} {x i y j : Nat} (h : Run T (fun x z => B x z ∨ L x z) x i y j) :
    Run T B x i y j ∨ ∃ k y1 x2, i < k ∧ k < j ∧ L y1 x2 ∧ Run T B x i y1 k ∧ Run T (fun x z => B x z ∨ L x z) x2 k y j := by
  induction h with
  | one h => exact .inl (.one h)
  | @more x i z y j h hb hr ih =>
    have hlt := hr.lt
    rcases hb with hb | hb
    · rcases ih with ih | ⟨k, y1, x2, e1, e2, e3, e4, e5⟩
      · exact .inl (.more h hb ih)
      · exact .inr ⟨k, y1, x2, by omega, e2, e3, .more h hb e4, e5⟩
    · exact .inr ⟨i + 1, x, z, by omega, hlt, hb, .one h, hr⟩
theorem Run.splitA {g : W4 → Nat → Prop} {t : RT} {ts : List RT} {b x i y j : Nat} (h : Run (TksL g (t :: ts) b) (BhdA (t :: ts) b) x i y j) :
    (x < b + leafN t ∧ y < b + leafN t ∧ Run (Tks g t b) (Bhd t b) x i y j) ∨ (b + leafN t ≤ x ∧ b + leafN t ≤ y ∧ Run (TksL g ts (b + leafN t)) (BhdA ts (b + leafN t)) x i y j) := by
  induction h with
  | one h =>
    unfold TksL at h
    rcases h with ⟨h1, h2⟩ | ⟨h1, h2⟩
    · exact .inl ⟨h1, h1, .one h2⟩
    · exact .inr ⟨h1, h1, .one h2⟩
  | @more x i z y j h hb hr ih =>
    unfold TksL at h
    unfold BhdA at hb
    rcases h with ⟨h1, h2⟩ | ⟨h1, h2⟩
    · rcases hb with hb | hb
      · have hz := (Bhd.range t b x z hb).2
        rcases ih with ⟨k1, k2, k3⟩ | ⟨k1, _⟩
        · exact .inl ⟨h1, k2, .more h2 hb k3⟩
        · omega
      · have := BhdA.range ts _ x z hb; omega
    · rcases hb with hb | hb
      · have := Bhd.range t b x z hb; omega
      · have hz := (BhdA.range ts _ x z hb).2
        rcases ih with ⟨k1, _⟩ | ⟨_, k2, k3⟩
        · omega
        · exact .inr ⟨h1, k2, .more h2 hb k3⟩
section
variable (g : W4 → Nat → Prop) (n : Nat)
theorem often_of_run {ks : List RT} {b : Nat} (H : ∀ i j, i < j → j ≤ n → ViaC g n ks b i j → CatL g n ks i j) : ∀ (m i j x y : Nat), j - i ≤ m → j ≤ n → FstC ks b (spotN i n) x → LstC ks b (spotN j n) y →
    Run (TksL g ks b) (fun x z => BhdC ks b x z ∨ (LstC ks b 0 x ∧ FstC ks b 0 z)) x i y j → ∃ k, CatL g n ks i k ∧ Often (CatL g n ks) k j
  | 0, i, j, x, y, hm, _, _, _, h => by have := h.lt; omega
  | m + 1, i, j, x, y, hm, hj, hx, hy, h => by
    have hlt := h.lt
    rcases h.links with h | ⟨k, y1, x2, e1, e2, ⟨e3, e4⟩, r1, r2⟩
    · exact ⟨j, H i j hlt hj ⟨x, y, hx, hy, h⟩, .none j⟩
    · have hs : spotN k n = 0 := spotN_in (by omega) (by omega)
      obtain ⟨k2, ha, hb⟩ := often_of_run H m k j x2 y (by omega) hj (by rw [hs]; exact e4) hy r2
      exact ⟨k, H i k e1 (by omega) ⟨x, y1, hx, by rw [hs]; exact e3, r1⟩, .more ha hb⟩
mutual
/-- Where a tree's leaves run, it leads. -/
theorem via_lead : ∀ (t : RT) (b i j : Nat), j ≤ n → Via g n t b i j → Lead g n t i j
  | .mk op st ks, b, i, j, hj, h => by
    obtain ⟨x, y, hx, hy, hr⟩ := h
    have hlt := hr.lt
    unfold Fst at hx
    unfold Lst at hy
    unfold Lead
    by_cases h1 : op = 1
    · rw [if_pos h1]
      cases hr with
      | one h =>
        unfold Tks at h
        rw [if_pos h1] at h
        exact ⟨h.2, by omega, rfl⟩
      | more h hb _ => unfold Bhd at hb; rw [if_pos h1] at hb; exact hb.elim
    rw [if_neg h1] at hx hy ⊢
    by_cases h3 : op = 3
    · rw [if_pos h3] at hx hy ⊢
      exact viaA_lead ks b i j hj ⟨x, y, hx, hy, hr.mono (fun x i h => by unfold Tks at h; rw [if_neg h1, if_neg (by omega)] at h; exact h) (fun x z h => by unfold Bhd at h; rw [if_neg h1, if_pos h3] at h; exact h)⟩
    rw [if_neg h3] at hx hy ⊢
    by_cases h78 : op = 7 ∨ op = 8
    · rw [if_pos h78] at hx; exact hx.elim
    rw [if_neg h78] at hx hy
    rw [if_neg (by omega), if_neg (by omega)]
    have hT : ∀ x i, Tks g (.mk op st ks) b x i → TksL g ks b x i := fun x i h => by unfold Tks at h; rw [if_neg h1, if_neg h78] at h; exact h
    by_cases h45 : op = 4 ∨ op = 5
    · have hO := often_of_run g n (b := b) (fun i j _ hj h => viaC_lead ks b i j hj h) (j - i) i j x y (Nat.le_refl _) hj hx hy (hr.mono hT (fun x z h => by unfold Bhd at h; rw [if_neg h1, if_neg h3, if_neg h78, if_pos h45] at h; exact h))
      by_cases h4 : op = 4
      · rw [if_pos h4]
        obtain ⟨k, ha, hb⟩ := hO
        exact .more ha hb
      · rw [if_neg h4, if_pos (by omega)]; exact hO
    · have hC : CatL g n ks i j := viaC_lead ks b i j hj ⟨x, y, hx, hy, hr.mono hT (fun x z h => by unfold Bhd at h; rw [if_neg h1, if_neg h3, if_neg h78, if_neg h45] at h; exact h)⟩
      rw [if_neg (by omega), if_neg (by omega)]
      split
      · exact .inr hC
      · exact hC
theorem viaC_lead : ∀ (ks : List RT) (b i j : Nat), j ≤ n → ViaC g n ks b i j → CatL g n ks i j
  | [], b, i, j, _, h => by obtain ⟨x, y, hx, _, _⟩ := h; unfold FstC at hx; exact hx.elim
  | t :: ts, b, i, j, hj, h => by
    obtain ⟨x, y, hx, hy, hr⟩ := h
    have hlt := hr.lt
    unfold FstC at hx
    unfold LstC at hy
    unfold CatL
    rcases hr.split with ⟨k1, k2, k3⟩ | ⟨k1, k2, k3⟩ | ⟨k1, k2, k, y1, x2, e1, e2, e3, e4, e5, e6⟩
    · rcases hx with hx | ⟨_, hx⟩
      · rcases hy with hy | ⟨hy1, hy2⟩
        · have := LstC.range ts _ _ y hy; omega
        · exact ⟨j, via_lead t b i j hj ⟨x, y, hx, hy2, k3⟩, (empC_iff g n ts j).2 hy1⟩
      · have := FstC.range ts _ _ x hx; omega
    · rcases hx with hx | ⟨hx1, hx2⟩
      · have := Fst.range t b _ x hx; omega
      · rcases hy with hy | ⟨_, hy⟩
        · exact ⟨i, (emp_iff g n t i).2 hx1, viaC_lead ts _ i j hj ⟨x, y, hx2, hy, k3⟩⟩
        · have := Lst.range t b _ y hy; omega
    · have hs : spotN k n = 0 := spotN_in (by omega) (by omega)
      rcases hx with hx | ⟨_, hx⟩
      · rcases hy with hy | ⟨_, hy⟩
        · exact ⟨k, via_lead t b i k (by omega) ⟨x, y1, hx, by rw [hs]; exact e3, e5⟩, viaC_lead ts _ k j hj ⟨x2, y, by rw [hs]; exact e4, hy, e6⟩⟩
        · have := Lst.range t b _ y hy; omega
      · have := FstC.range ts _ _ x hx; omega
theorem viaA_lead : ∀ (ks : List RT) (b i j : Nat), j ≤ n → ViaA g n ks b i j → AltL g n ks i j
  | [], b, i, j, _, h => by obtain ⟨x, y, hx, _, _⟩ := h; unfold FstA at hx; exact hx.elim
  | t :: ts, b, i, j, hj, h => by
    obtain ⟨x, y, hx, hy, hr⟩ := h
    unfold FstA at hx
    unfold LstA at hy
    unfold AltL
    rcases hr.splitA with ⟨k1, k2, k3⟩ | ⟨k1, k2, k3⟩
    · rcases hx with hx | hx
      · rcases hy with hy | hy
        · exact .inl (via_lead t b i j hj ⟨x, y, hx, hy, k3⟩)
        · have := LstA.range ts _ _ y hy; omega
      · have := FstA.range ts _ _ x hx; omega
    · rcases hx with hx | hx
      · have := Fst.range t b _ x hx; omega
      · rcases hy with hy | hy
        · have := Lst.range t b _ y hy; omega
        · exact .inr (viaA_lead ts _ i j hj ⟨x, y, hx, hy, k3⟩)
end
/-- GLUSHKOV: a tree leads from i to j just if it is met by nothing there, or its leaves run so. -/
theorem lead_iff (t : RT) (b i j : Nat) (hj : j ≤ n) : Lead g n t i j ↔ (i = j ∧ emp t (spotN i n) = true) ∨ (i < j ∧ Via g n t b i j) := by
  constructor
  · intro h
    have := Lead.le g n t _ _ h
    by_cases e : i = j
    · subst e; exact .inl ⟨rfl, (emp_iff g n t i).1 h⟩
    · exact .inr ⟨by omega, lead_via g n t b i j (by omega) hj h⟩
  · rintro (⟨rfl, h⟩ | ⟨_, h⟩)
    · exact (emp_iff g n t i).2 h
    · exact via_lead g n t b i j hj h
end
end Go.Proofs.YtjjejcgpeefclaaDoor
