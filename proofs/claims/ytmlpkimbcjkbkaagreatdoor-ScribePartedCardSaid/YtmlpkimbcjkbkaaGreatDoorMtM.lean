/-
  THE MATHEMATICS of layer 10 (match): where a tree leads from, and the automaton of its leaves (Glushkov), a text's places being of four kinds.
-/
import Derived.Test.YtmlpkimbcjkbkaaGreatDoorRgM
namespace Go.Proofs.YtmlpkimbcjkbkaaGreatDoor

/-- From a place to a place by nought or more steps. -/
inductive Often (R : Nat → Nat → Prop) : Nat → Nat → Prop where
  | none (i : Nat) : Often R i i
  | more {i k j : Nat} (h : R i k) (h2 : Often R k j) : Often R i j
theorem Often.snoc {R : Nat → Nat → Prop} {i k j : Nat} (h : Often R i k) (h2 : R k j) : Often R i j := by
  induction h with
  | none i => exact .more h2 (.none _)
  | more h1 _ ih => exact .more h1 (ih h2)
section
variable (tk : W4 → Nat → Prop) (n : Nat)
mutual
/-- A tree leads from a place of a text of n bytes to another; tk st i: there is a byte at place i, and the set has it. -/
def Lead : RT → Nat → Nat → Prop
  | .mk op st ks, i, j =>
    if op = 1 then tk st i ∧ i < n ∧ j = i + 1
    else if op = 3 then AltL ks i j
    else if op = 7 then i = j ∧ i = 0
    else if op = 8 then i = j ∧ i = n
    else if op = 4 then Often (CatL ks) i j
    else if op = 5 then ∃ k, CatL ks i k ∧ Often (CatL ks) k j
    else if op = 6 then i = j ∨ CatL ks i j
    else CatL ks i j
def CatL : List RT → Nat → Nat → Prop
  | [], i, j => i = j
  | t :: ts, i, j => ∃ k, Lead t i k ∧ CatL ts k j
def AltL : List RT → Nat → Nat → Prop
  | [], _, _ => False
  | t :: ts, i, j => Lead t i j ∨ AltL ts i j
end
theorem Often.le {R : Nat → Nat → Prop} (hR : ∀ i j, R i j → i ≤ j) {i j : Nat} (h : Often R i j) : i ≤ j := by
  induction h with
  | none i => exact Nat.le_refl _
  | more h _ ih => exact Nat.le_trans (hR _ _ h) ih
mutual
theorem Lead.le : ∀ (t : RT) (i j : Nat), Lead tk n t i j → i ≤ j
  | .mk op st ks, i, j, h => by
    unfold Lead at h
    split at h
    · omega
    split at h
    · exact AltL.le ks i j h
    split at h
    · omega
    split at h
    · omega
    split at h
    · exact Often.le (CatL.le ks) h
    split at h
    · obtain ⟨k, h1, h2⟩ := h
      exact Nat.le_trans (CatL.le ks _ _ h1) (Often.le (CatL.le ks) h2)
    split at h
    · rcases h with h | h
      · omega
      · exact CatL.le ks _ _ h
    · exact CatL.le ks _ _ h
theorem CatL.le : ∀ (ks : List RT) (i j : Nat), CatL tk n ks i j → i ≤ j
  | [], i, j, h => by unfold CatL at h; omega
  | t :: ts, i, j, h => by
    unfold CatL at h
    obtain ⟨k, h1, h2⟩ := h
    exact Nat.le_trans (Lead.le t _ _ h1) (CatL.le ts _ _ h2)
theorem AltL.le : ∀ (ks : List RT) (i j : Nat), AltL tk n ks i j → i ≤ j
  | [], i, j, h => by unfold AltL at h; exact h.elim
  | t :: ts, i, j, h => by
    unfold AltL at h
    rcases h with h | h
    · exact Lead.le t _ _ h
    · exact AltL.le ts _ _ h
end
end
/-- Of which kind is a place: 1 at the beginning, 2 at the end, 3 both, 0 neither. -/
def spotN (i n : Nat) : Nat := (if i = 0 then 1 else 0) + (if i = n then 2 else 0)
theorem spotN_lt (i n : Nat) : spotN i n < 4 := by unfold spotN; split <;> split <;> omega
mutual
/-- How many leaves a tree has. -/
def leafN : RT → Nat
  | .mk op _ ks => if op = 1 then 1 else if op = 7 ∨ op = 8 then 0 else leavesN ks
def leavesN : List RT → Nat
  | [] => 0
  | t :: ts => leafN t + leavesN ts
end
mutual
/-- Is a tree met by nothing, at a place of a kind? -/
def emp : RT → Nat → Bool
  | .mk op _ ks, k => if op = 1 then false else if op = 3 then empA ks k else if op = 7 then k % 2 == 1 else if op = 8 then decide (2 ≤ k)
    else if op = 4 then true else if op = 5 then empC ks k else if op = 6 then true else empC ks k
def empC : List RT → Nat → Bool
  | [], _ => true
  | t :: ts, k => emp t k && empC ts k
def empA : List RT → Nat → Bool
  | [], _ => false
  | t :: ts, k => emp t k || empA ts k
end
theorem spotN_begin (i n : Nat) : (spotN i n % 2 == 1) = true ↔ i = 0 := by
  unfold spotN
  by_cases h : i = 0 <;> by_cases h2 : i = n <;> simp [h, h2] <;> (try (split <;> simp)) <;> omega
theorem spotN_end (i n : Nat) : decide (2 ≤ spotN i n) = true ↔ i = n := by
  unfold spotN
  by_cases h : i = 0 <;> by_cases h2 : i = n <;> simp [h, h2] <;> (try (split <;> simp)) <;> omega
section
variable (tk : W4 → Nat → Prop) (n : Nat)
mutual
theorem emp_iff : ∀ (t : RT) (i : Nat), Lead tk n t i i ↔ emp t (spotN i n) = true
  | .mk op st ks, i => by
    unfold Lead emp
    by_cases h1 : op = 1
    · rw [if_pos h1, if_pos h1]
      exact ⟨fun h => by omega, fun h => by cases h⟩
    rw [if_neg h1, if_neg h1]
    by_cases h3 : op = 3
    · rw [if_pos h3, if_pos h3]; exact empA_iff ks i
    rw [if_neg h3, if_neg h3]
    by_cases h7 : op = 7
    · rw [if_pos h7, if_pos h7, spotN_begin]; exact ⟨fun h => h.2, fun h => ⟨rfl, h⟩⟩
    rw [if_neg h7, if_neg h7]
    by_cases h8 : op = 8
    · rw [if_pos h8, if_pos h8, spotN_end]; exact ⟨fun h => h.2, fun h => ⟨rfl, h⟩⟩
    rw [if_neg h8, if_neg h8]
    by_cases h4 : op = 4
    · rw [if_pos h4, if_pos h4]; exact ⟨fun _ => rfl, fun _ => .none i⟩
    rw [if_neg h4, if_neg h4]
    by_cases h5 : op = 5
    · rw [if_pos h5, if_pos h5, ← empC_iff ks i]
      constructor
      · rintro ⟨k, ha, hb⟩
        have e1 := CatL.le tk n ks _ _ ha
        have e2 := Often.le (CatL.le tk n ks) hb
        obtain rfl : k = i := by omega
        exact ha
      · exact fun h => ⟨i, h, .none i⟩
    rw [if_neg h5, if_neg h5]
    by_cases h6 : op = 6
    · rw [if_pos h6, if_pos h6]; exact ⟨fun _ => rfl, fun _ => .inl rfl⟩
    rw [if_neg h6, if_neg h6]
    exact empC_iff ks i
theorem empC_iff : ∀ (ks : List RT) (i : Nat), CatL tk n ks i i ↔ empC ks (spotN i n) = true
  | [], i => by unfold CatL empC; simp
  | t :: ts, i => by
    unfold CatL empC
    rw [Bool.and_eq_true, ← emp_iff t i, ← empC_iff ts i]
    constructor
    · rintro ⟨k, ha, hb⟩
      have e1 := Lead.le tk n t _ _ ha
      have e2 := CatL.le tk n ts _ _ hb
      obtain rfl : k = i := by omega
      exact ⟨ha, hb⟩
    · exact fun h => ⟨i, h⟩
theorem empA_iff : ∀ (ks : List RT) (i : Nat), AltL tk n ks i i ↔ empA ks (spotN i n) = true
  | [], i => by unfold AltL empA; simp
  | t :: ts, i => by
    unfold AltL empA
    rw [Bool.or_eq_true, ← emp_iff t i, ← empA_iff ts i]
end
end
mutual
/-- The leaves (numbered from b on) that may take a tree's first byte, at a place of a kind. -/
def Fst : RT → Nat → Nat → Nat → Prop
  | .mk op _ ks, b, k, x => if op = 1 then x = b else if op = 3 then FstA ks b k x else if op = 7 ∨ op = 8 then False else FstC ks b k x
def FstC : List RT → Nat → Nat → Nat → Prop
  | [], _, _, _ => False
  | t :: ts, b, k, x => Fst t b k x ∨ (emp t k = true ∧ FstC ts (b + leafN t) k x)
def FstA : List RT → Nat → Nat → Nat → Prop
  | [], _, _, _ => False
  | t :: ts, b, k, x => Fst t b k x ∨ FstA ts (b + leafN t) k x
end
mutual
/-- Those that may take its last byte, the place behind being of a kind. -/
def Lst : RT → Nat → Nat → Nat → Prop
  | .mk op _ ks, b, k, x => if op = 1 then x = b else if op = 3 then LstA ks b k x else if op = 7 ∨ op = 8 then False else LstC ks b k x
def LstC : List RT → Nat → Nat → Nat → Prop
  | [], _, _, _ => False
  | t :: ts, b, k, x => LstC ts (b + leafN t) k x ∨ (empC ts k = true ∧ Lst t b k x)
def LstA : List RT → Nat → Nat → Nat → Prop
  | [], _, _, _ => False
  | t :: ts, b, k, x => Lst t b k x ∨ LstA ts (b + leafN t) k x
end
mutual
/-- Which may stand behind which. -/
def Bhd : RT → Nat → Nat → Nat → Prop
  | .mk op _ ks, b, x, y => if op = 1 then False else if op = 3 then BhdA ks b x y else if op = 7 ∨ op = 8 then False
    else if op = 4 ∨ op = 5 then BhdC ks b x y ∨ (LstC ks b 0 x ∧ FstC ks b 0 y) else BhdC ks b x y
def BhdC : List RT → Nat → Nat → Nat → Prop
  | [], _, _, _ => False
  | t :: ts, b, x, y => Bhd t b x y ∨ BhdC ts (b + leafN t) x y ∨ (Lst t b 0 x ∧ FstC ts (b + leafN t) 0 y)
def BhdA : List RT → Nat → Nat → Nat → Prop
  | [], _, _, _ => False
  | t :: ts, b, x, y => Bhd t b x y ∨ BhdA ts (b + leafN t) x y
end
mutual
theorem Fst.range : ∀ (t : RT) (b k x : Nat), Fst t b k x → b ≤ x ∧ x < b + leafN t
  | .mk op st ks, b, k, x, h => by
    unfold Fst at h; unfold leafN
    by_cases h1 : op = 1
    · rw [if_pos h1] at h ⊢; omega
    rw [if_neg h1] at h ⊢
    by_cases h3 : op = 3
    · rw [if_pos h3] at h; rw [if_neg (by omega)]; exact FstA.range ks b k x h
    rw [if_neg h3] at h
    by_cases h7 : op = 7 ∨ op = 8
    · rw [if_pos h7] at h; exact h.elim
    rw [if_neg h7] at h ⊢
    exact FstC.range ks b k x h
theorem FstC.range : ∀ (ks : List RT) (b k x : Nat), FstC ks b k x → b ≤ x ∧ x < b + leavesN ks
  | [], b, k, x, h => by unfold FstC at h; exact h.elim
  | t :: ts, b, k, x, h => by
    unfold FstC at h; unfold leavesN
    rcases h with h | ⟨_, h⟩
    · have := Fst.range t b k x h; omega
    · have := FstC.range ts _ k x h; omega
theorem FstA.range : ∀ (ks : List RT) (b k x : Nat), FstA ks b k x → b ≤ x ∧ x < b + leavesN ks
  | [], b, k, x, h => by unfold FstA at h; exact h.elim
  | t :: ts, b, k, x, h => by
    unfold FstA at h; unfold leavesN
    rcases h with h | h
    · have := Fst.range t b k x h; omega
    · have := FstA.range ts _ k x h; omega
end
mutual
theorem Lst.range : ∀ (t : RT) (b k x : Nat), Lst t b k x → b ≤ x ∧ x < b + leafN t
  | .mk op st ks, b, k, x, h => by
    unfold Lst at h; unfold leafN
    by_cases h1 : op = 1
    · rw [if_pos h1] at h ⊢; omega
    rw [if_neg h1] at h ⊢
    by_cases h3 : op = 3
    · rw [if_pos h3] at h; rw [if_neg (by omega)]; exact LstA.range ks b k x h
    rw [if_neg h3] at h
    by_cases h7 : op = 7 ∨ op = 8
    · rw [if_pos h7] at h; exact h.elim
    rw [if_neg h7] at h ⊢
    exact LstC.range ks b k x h
theorem LstC.range : ∀ (ks : List RT) (b k x : Nat), LstC ks b k x → b ≤ x ∧ x < b + leavesN ks
  | [], b, k, x, h => by unfold LstC at h; exact h.elim
  | t :: ts, b, k, x, h => by
    unfold LstC at h; unfold leavesN
    rcases h with h | ⟨_, h⟩
    · have := LstC.range ts _ k x h; omega
    · have := Lst.range t b k x h; omega
theorem LstA.range : ∀ (ks : List RT) (b k x : Nat), LstA ks b k x → b ≤ x ∧ x < b + leavesN ks
  | [], b, k, x, h => by unfold LstA at h; exact h.elim
  | t :: ts, b, k, x, h => by
    unfold LstA at h; unfold leavesN
    rcases h with h | h
    · have := Lst.range t b k x h; omega
    · have := LstA.range ts _ k x h; omega
end
mutual
theorem Bhd.range : ∀ (t : RT) (b x y : Nat), Bhd t b x y → (b ≤ x ∧ x < b + leafN t) ∧ (b ≤ y ∧ y < b + leafN t)
  | .mk op st ks, b, x, y, h => by
    unfold Bhd at h; unfold leafN
    by_cases h1 : op = 1
    · rw [if_pos h1] at h; exact h.elim
    rw [if_neg h1] at h ⊢
    by_cases h3 : op = 3
    · rw [if_pos h3] at h; rw [if_neg (by omega)]; exact BhdA.range ks b x y h
    rw [if_neg h3] at h
    by_cases h7 : op = 7 ∨ op = 8
    · rw [if_pos h7] at h; exact h.elim
    rw [if_neg h7] at h ⊢
    by_cases h4 : op = 4 ∨ op = 5
    · rw [if_pos h4] at h
      rcases h with h | ⟨ha, hb⟩
      · exact BhdC.range ks b x y h
      · exact ⟨LstC.range ks b 0 x ha, FstC.range ks b 0 y hb⟩
    · rw [if_neg h4] at h
      exact BhdC.range ks b x y h
theorem BhdC.range : ∀ (ks : List RT) (b x y : Nat), BhdC ks b x y → (b ≤ x ∧ x < b + leavesN ks) ∧ (b ≤ y ∧ y < b + leavesN ks)
  | [], b, x, y, h => by unfold BhdC at h; exact h.elim
  | t :: ts, b, x, y, h => by
    unfold BhdC at h; unfold leavesN
    rcases h with h | h | ⟨ha, hb⟩
    · have := Bhd.range t b x y h; omega
    · have := BhdC.range ts _ x y h; omega
    · have h1 := Lst.range t b 0 x ha
      have h2 := FstC.range ts _ 0 y hb
      omega
theorem BhdA.range : ∀ (ks : List RT) (b x y : Nat), BhdA ks b x y → (b ≤ x ∧ x < b + leavesN ks) ∧ (b ≤ y ∧ y < b + leavesN ks)
  | [], b, x, y, h => by unfold BhdA at h; exact h.elim
  | t :: ts, b, x, y, h => by
    unfold BhdA at h; unfold leavesN
    rcases h with h | h
    · have := Bhd.range t b x y h; omega
    · have := BhdA.range ts _ x y h; omega
end
mutual
/-- Which bytes a leaf takes: g x of leaf x is its set's byte at a place. -/
def Tks (g : W4 → Nat → Prop) : RT → Nat → Nat → Nat → Prop
  | .mk op st ks, b, x, i => if op = 1 then x = b ∧ g st i else if op = 7 ∨ op = 8 then False else TksL g ks b x i
def TksL (g : W4 → Nat → Prop) : List RT → Nat → Nat → Nat → Prop
  | [], _, _, _ => False
  | t :: ts, b, x, i => (x < b + leafN t ∧ Tks g t b x i) ∨ (b + leafN t ≤ x ∧ TksL g ts (b + leafN t) x i)
end
/-- A run: leaf x takes the byte at i, .. , leaf y the one ahead of j; each may stand behind the one ahead of it. -/
inductive Run (T B : Nat → Nat → Prop) : Nat → Nat → Nat → Nat → Prop where
  | one {x i : Nat} (h : T x i) : Run T B x i x (i + 1)
  | more {x i z y j : Nat} (h : T x i) (h2 : B x z) (h3 : Run T B z (i + 1) y j) : Run T B x i y j
theorem Run.lt {T B : Nat → Nat → Prop} {x i y j : Nat} (h : Run T B x i y j) : i < j := by
  induction h with
  | one h => omega
  | more h h2 h3 ih => omega
theorem Run.mono {T B T' B' : Nat → Nat → Prop} (hT : ∀ x i, T x i → T' x i) (hB : ∀ x z, B x z → B' x z) {x i y j : Nat} (h : Run T B x i y j) : Run T' B' x i y j := by
  induction h with
  | one h => exact .one (hT _ _ h)
  | more h h2 h3 ih => exact .more (hT _ _ h) (hB _ _ h2) ih
theorem Run.join {T B : Nat → Nat → Prop} {x i y j x2 y2 k : Nat} (h : Run T B x i y j) (hb : B y x2) (h2 : Run T B x2 j y2 k) : Run T B x i y2 k := by
  induction h with
  | one h => exact .more h hb h2
  | more h hz h3 ih => exact .more h hz (ih hb h2)
theorem spotN_in {k n : Nat} (h : 0 < k) (h2 : k < n) : spotN k n = 0 := by
  unfold spotN; rw [if_neg (by omega), if_neg (by omega)]
mutual
theorem Tks.range (g : W4 → Nat → Prop) : ∀ (t : RT) (b x i : Nat), Tks g t b x i → b ≤ x ∧ x < b + leafN t
  | .mk op st ks, b, x, i, h => by
    unfold Tks at h; unfold leafN
    by_cases h1 : op = 1
    · rw [if_pos h1] at h ⊢; omega
    rw [if_neg h1] at h ⊢
    by_cases h7 : op = 7 ∨ op = 8
    · rw [if_pos h7] at h; exact h.elim
    rw [if_neg h7] at h ⊢
    exact TksL.range g ks b x i h
theorem TksL.range (g : W4 → Nat → Prop) : ∀ (ks : List RT) (b x i : Nat), TksL g ks b x i → b ≤ x ∧ x < b + leavesN ks
  | [], b, x, i, h => by unfold TksL at h; exact h.elim
  | t :: ts, b, x, i, h => by
    unfold TksL at h; unfold leavesN
    rcases h with ⟨_, h⟩ | ⟨_, h⟩
    · have := Tks.range g t b x i h; omega
    · have := TksL.range g ts _ x i h; omega
end
/-- From i to j, by the leaves of parts, one behind the other. -/
def ViaC (g : W4 → Nat → Prop) (n : Nat) (ks : List RT) (b i j : Nat) : Prop := ∃ x y, FstC ks b (spotN i n) x ∧ LstC ks b (spotN j n) y ∧ Run (TksL g ks b) (BhdC ks b) x i y j
def Via (g : W4 → Nat → Prop) (n : Nat) (t : RT) (b i j : Nat) : Prop := ∃ x y, Fst t b (spotN i n) x ∧ Lst t b (spotN j n) y ∧ Run (Tks g t b) (Bhd t b) x i y j
def ViaA (g : W4 → Nat → Prop) (n : Nat) (ks : List RT) (b i j : Nat) : Prop := ∃ x y, FstA ks b (spotN i n) x ∧ LstA ks b (spotN j n) y ∧ Run (TksL g ks b) (BhdA ks b) x i y j
/-- One part behind the other: if both lead on, a leaf of the one stands ahead of one of the other. -/
theorem ViaC.cons {g : W4 → Nat → Prop} {n : Nat} {t : RT} {ts : List RT} {b i k j : Nat} (hik : i ≤ k) (hkj : k ≤ j) (hij : i < j) (hj : j ≤ n)
    (h1 : i < k → Via g n t b i k) (h1e : i = k → emp t (spotN i n) = true) (h2 : k < j → ViaC g n ts (b + leafN t) k j) (h2e : k = j → empC ts (spotN j n) = true) : ViaC g n (t :: ts) b i j := by
  have hL : ∀ x i, Tks g t b x i → TksL g (t :: ts) b x i := fun x i h => by
    unfold TksL; exact .inl ⟨(Tks.range g t b x i h).2, h⟩
  have hR : ∀ x i, TksL g ts (b + leafN t) x i → TksL g (t :: ts) b x i := fun x i h => by
    unfold TksL; exact .inr ⟨(TksL.range g ts _ x i h).1, h⟩
  have bL : ∀ x z, Bhd t b x z → BhdC (t :: ts) b x z := fun x z h => by unfold BhdC; exact .inl h
  have bR : ∀ x z, BhdC ts (b + leafN t) x z → BhdC (t :: ts) b x z := fun x z h => by unfold BhdC; exact .inr (.inl h)
  by_cases e1 : i = k
  · subst e1
    obtain ⟨x, y, hx, hy, hr⟩ := h2 hij
    exact ⟨x, y, by unfold FstC; exact .inr ⟨h1e rfl, hx⟩, by unfold LstC; exact .inl hy, hr.mono hR bR⟩
  · obtain ⟨x, y, hx, hy, hr⟩ := h1 (by omega)
    by_cases e2 : k = j
    · subst e2
      exact ⟨x, y, by unfold FstC; exact .inl hx, by unfold LstC; exact .inr ⟨h2e rfl, hy⟩, hr.mono hL bL⟩
    · obtain ⟨x2, y2, hx2, hy2, hr2⟩ := h2 (by omega)
      rw [spotN_in (by omega) (by omega)] at hy hx2
      exact ⟨x, y2, by unfold FstC; exact .inl hx, by unfold LstC; exact .inl hy2, (hr.mono hL bL).join (by unfold BhdC; exact .inr (.inr ⟨hy, hx2⟩)) (hr2.mono hR bR)⟩
theorem often_via {g : W4 → Nat → Prop} {n : Nat} {ks : List RT} {b : Nat} (H : ∀ i j, i < j → j ≤ n → CatL g n ks i j → ViaC g n ks b i j) {i j : Nat} (h : Often (CatL g n ks) i j) : i < j → j ≤ n →
    ∃ x y, FstC ks b (spotN i n) x ∧ LstC ks b (spotN j n) y ∧ Run (TksL g ks b) (fun x z => BhdC ks b x z ∨ (LstC ks b 0 x ∧ FstC ks b 0 z)) x i y j := by
  induction h with
  | none i => intro h; omega
  | @more i k j h1 h2 ih =>
    intro hij hj
    have e1 := CatL.le g n ks _ _ h1
    have e2 := Often.le (CatL.le g n ks) h2
    by_cases c1 : i = k
    · subst c1; exact ih hij hj
    obtain ⟨x, y, hx, hy, hr⟩ := H i k (by omega) (by omega) h1
    have hr' := hr.mono (T' := TksL g ks b) (B' := fun x z => BhdC ks b x z ∨ (LstC ks b 0 x ∧ FstC ks b 0 z)) (fun _ _ h => h) (fun _ _ h => .inl h)
    by_cases c2 : k = j
    · subst c2; exact ⟨x, y, hx, hy, hr'⟩
    obtain ⟨x2, y2, hx2, hy2, hr2⟩ := ih (by omega) hj
    rw [spotN_in (by omega) (by omega)] at hy hx2
    exact ⟨x, y2, hx, hy2, hr'.join (.inr ⟨hy, hx2⟩) hr2⟩
section
variable (g : W4 → Nat → Prop) (n : Nat)
mutual
/-- Where a tree leads, its leaves run. -/
theorem lead_via : ∀ (t : RT) (b i j : Nat), i < j → j ≤ n → Lead g n t i j → Via g n t b i j
  | .mk op st ks, b, i, j, hij, hj, h => by
    unfold Lead at h
    by_cases h1 : op = 1
    · rw [if_pos h1] at h
      obtain ⟨ha, _, rfl⟩ := h
      exact ⟨b, b, by unfold Fst; rw [if_pos h1], by unfold Lst; rw [if_pos h1], .one (by unfold Tks; rw [if_pos h1]; exact ⟨rfl, ha⟩)⟩
    rw [if_neg h1] at h
    by_cases h3 : op = 3
    · rw [if_pos h3] at h
      obtain ⟨x, y, hx, hy, hr⟩ := altL_via ks b i j hij hj h
      exact ⟨x, y, by unfold Fst; rw [if_neg h1, if_pos h3]; exact hx, by unfold Lst; rw [if_neg h1, if_pos h3]; exact hy,
        hr.mono (fun x i h => by unfold Tks; rw [if_neg h1, if_neg (by omega)]; exact h) (fun x z h => by unfold Bhd; rw [if_neg h1, if_pos h3]; exact h)⟩
    rw [if_neg h3] at h
    by_cases h7 : op = 7
    · rw [if_pos h7] at h; omega
    rw [if_neg h7] at h
    by_cases h8 : op = 8
    · rw [if_pos h8] at h; omega
    rw [if_neg h8] at h
    have h78 : ¬ (op = 7 ∨ op = 8) := by omega
    have fin : ∀ {x y : Nat} {B : Nat → Nat → Prop}, FstC ks b (spotN i n) x → LstC ks b (spotN j n) y → Run (TksL g ks b) B x i y j → (∀ x z, B x z → Bhd (.mk op st ks) b x z) → Via g n (.mk op st ks) b i j :=
      fun hx hy hr hB => ⟨_, _, by unfold Fst; rw [if_neg h1, if_neg h3, if_neg h78]; exact hx, by unfold Lst; rw [if_neg h1, if_neg h3, if_neg h78]; exact hy,
        hr.mono (fun x i h => by unfold Tks; rw [if_neg h1, if_neg h78]; exact h) hB⟩
    have hC : CatL g n ks i j → Via g n (.mk op st ks) b i j := fun h => by
      obtain ⟨x, y, hx, hy, hr⟩ := catL_via ks b i j hij hj h
      refine fin hx hy hr (fun x z h => ?_)
      unfold Bhd
      rw [if_neg h1, if_neg h3, if_neg h78]
      split
      · exact .inl h
      · exact h
    have hO : op = 4 ∨ op = 5 → Often (CatL g n ks) i j → Via g n (.mk op st ks) b i j := fun ho h => by
      obtain ⟨x, y, hx, hy, hr⟩ := often_via (b := b) (fun i j hij hj h => catL_via ks b i j hij hj h) h hij hj
      refine fin hx hy hr (fun x z h => ?_)
      unfold Bhd
      rw [if_neg h1, if_neg h3, if_neg h78, if_pos ho]
      exact h
    by_cases h4 : op = 4
    · rw [if_pos h4] at h; exact hO (.inl h4) h
    rw [if_neg h4] at h
    by_cases h5 : op = 5
    · rw [if_pos h5] at h
      obtain ⟨k, ha, hb⟩ := h
      exact hO (.inr h5) (.more ha hb)
    rw [if_neg h5] at h
    by_cases h6 : op = 6
    · rw [if_pos h6] at h
      rcases h with h | h
      · omega
      · exact hC h
    rw [if_neg h6] at h
    exact hC h
theorem catL_via : ∀ (ks : List RT) (b i j : Nat), i < j → j ≤ n → CatL g n ks i j → ViaC g n ks b i j
  | [], b, i, j, hij, _, h => by unfold CatL at h; omega
  | t :: ts, b, i, j, hij, hj, h => by
    unfold CatL at h
    obtain ⟨k, ha, hb⟩ := h
    have e1 := Lead.le g n t _ _ ha
    have e2 := CatL.le g n ts _ _ hb
    exact ViaC.cons e1 e2 hij hj (fun h => lead_via t b i k h (by omega) ha) (fun h => by subst h; exact (emp_iff g n t i).1 ha) (fun h => catL_via ts _ k j h hj hb) (fun h => by subst h; exact (empC_iff g n ts k).1 hb)
theorem altL_via : ∀ (ks : List RT) (b i j : Nat), i < j → j ≤ n → AltL g n ks i j → ViaA g n ks b i j
  | [], b, i, j, _, _, h => by unfold AltL at h; exact h.elim
  | t :: ts, b, i, j, hij, hj, h => by
    unfold AltL at h
    rcases h with h | h
    · obtain ⟨x, y, hx, hy, hr⟩ := lead_via t b i j hij hj h
      exact ⟨x, y, by unfold FstA; exact .inl hx, by unfold LstA; exact .inl hy,
        hr.mono (fun x i h => by unfold TksL; exact .inl ⟨(Tks.range g t b x i h).2, h⟩) (fun x z h => by unfold BhdA; exact .inl h)⟩
    · obtain ⟨x, y, hx, hy, hr⟩ := altL_via ts (b + leafN t) i j hij hj h
      exact ⟨x, y, by unfold FstA; exact .inr hx, by unfold LstA; exact .inr hy,
        hr.mono (fun x i h => by unfold TksL; exact .inr ⟨(TksL.range g ts _ x i h).1, h⟩) (fun x z h => by unfold BhdA; exact .inr h)⟩
end
end
end Go.Proofs.YtmlpkimbcjkbkaaGreatDoor
