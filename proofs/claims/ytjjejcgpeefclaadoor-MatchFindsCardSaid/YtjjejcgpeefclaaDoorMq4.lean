/-
  MATHEMATICS of the document's own sets (scriberef09.set): a set's items, one by one, over the places of a text.
-/
import Derived.Test.YtjjejcgpeefclaaDoorMfT
import Derived.Test.YtjjejcgpeefclaaDoorMq2
namespace Go.Proofs.YtjjejcgpeefclaaDoor
open Go.RowKit

/-! Sets. -/
theorem hasC_app (a b : List UInt8) (c : Nat) : hasC (a ++ b) c = (hasC a c || hasC b c) := by unfold hasC; rw [List.any_append]
/-- So many bytes, from one on. -/
def rngL (c : Nat) : Nat → List UInt8
  | 0 => []
  | n + 1 => UInt8.ofNat c :: rngL (c + 1) n
theorem rngL_snoc : ∀ (n c : Nat), rngL c (n + 1) = rngL c n ++ [UInt8.ofNat (c + n)]
  | 0, c => rfl
  | n + 1, c => by
    show UInt8.ofNat c :: rngL (c + 1) (n + 1) = _
    rw [rngL_snoc n (c + 1), show c + 1 + n = c + (n + 1) by omega]; rfl
theorem rngL_len : ∀ (n c : Nat), (rngL c n).length = n
  | 0, _ => rfl
  | n + 1, c => by show (rngL (c + 1) n).length + 1 = _; rw [rngL_len]
theorem StF.congr {f g : Nat → Bool} {S : W4} (h : StF f S) (e : ∀ c, f c = g c) : StF g S := by
  have : f = g := funext e
  rw [← this]; exact h
theorem StF.orS {f g : Nat → Bool} {S T : W4} (h : StF f S) (k : StF g T) : StF (fun c => f c || g c) (orW S T) := by
  have o : ∀ {v : Nat} {x y : Int}, Wd f v x → Wd g v y → Wd (fun c => f c || g c) v (orU x y) := fun {v x y} hx hy =>
    Wd.mk2 (orU_nat x y) (fun i hi => by rw [BW_or, hx.bit i hi, hy.bit i hi])
  exact ⟨o h.1 k.1, o h.2.1 k.2.1, o h.2.2.1 k.2.2.1, o h.2.2.2 k.2.2.2⟩
theorem rangeN_set : ∀ (n c : Nat) (f : Nat → Bool) (S : W4), c + n ≤ 256 → StF f S → StF (fun z => f z || hasC (rngL c n) z) (rangeN withW c n S)
  | 0, c, f, S, _, h => h.congr fun z => by simp [rngL, hasC]
  | n + 1, c, f, S, hc, h => by
    have hcv : (UInt8.ofNat c).toNat = c := by rw [UInt8.toNat_ofNat']; omega
    have h2 := rangeN_set n (c + 1) _ _ (by omega) (h.with (UInt8.ofNat c))
    refine h2.congr fun z => ?_
    show (f z || ((UInt8.ofNat c).toNat == z) || hasC (rngL (c + 1) n) z) = (f z || hasC (UInt8.ofNat c :: rngL (c + 1) n) z)
    rw [show hasC (UInt8.ofNat c :: rngL (c + 1) n) z = (((UInt8.ofNat c).toNat == z) || hasC (rngL (c + 1) n) z) from rfl, Bool.or_assoc]
theorem rangeW_set (lo hi : UInt8) : StF (hasC (rngL lo.toNat (hi.toNat + 1 - lo.toNat))) (rangeW withW lo hi) := by
  have hl := hi.toNat_lt
  have hl2 := lo.toNat_lt
  refine (rangeN_set (hi.toNat + 1 - lo.toNat) lo.toNat (fun _ => false) W4.zero (by omega) StF.zero).congr fun z => by simp
/-- The bytes that a set has, out of a list of them. -/
theorem bytesN_has (l : List UInt8) (nt : Bool) (c : Nat) (hc : c < 256) : hasC (bytesN l nt 256) c = (hasC l c != nt) := by
  unfold bytesN
  rw [Bool.eq_iff_iff]
  unfold hasC
  rw [List.any_eq_true]
  constructor
  · rintro ⟨b, hb, he⟩
    obtain ⟨d, hd, rfl⟩ := List.mem_map.1 hb
    obtain ⟨hd1, hd2⟩ := List.mem_filter.1 hd
    have hd3 : d < 256 := List.mem_range.1 hd1
    have : d = c := by
      have h : (UInt8.ofNat d).toNat = c := by simpa using he
      rw [UInt8.toNat_ofNat'] at h; omega
    rw [← this]; exact hd2
  · intro h
    refine ⟨UInt8.ofNat c, List.mem_map.2 ⟨c, List.mem_filter.2 ⟨List.mem_range.2 hc, h⟩, rfl⟩, ?_⟩
    simp; omega
theorem set_text {f : Nat → Bool} {S : W4} (h : StF f S) (l : List UInt8) (hl : ∀ c, c < 256 → hasC l c = f c) (nt : Bool) (T : ByteArray) (hT : T.data.toList = bytesN l nt 256) : SetIs 1 (if nt then notW S else S) T := by
  have hs : T.size ≤ 256 := by
    have := bytesN_len l nt 256
    rw [← hT] at this
    have e : T.data.toList.length = T.size := by simp
    omega
  cases nt with
  | false => exact setIs_of h hs fun c hc => by rw [hT, bytesN_has l false c hc, hl c hc]; simp
  | true => exact setIs_of h.not hs fun c hc => by rw [hT, bytesN_has l true c hc, hl c hc]; simp
theorem one_text (b : UInt8) : SetIs 1 (withW W4.zero b) ⟨#[b]⟩ :=
  setIs_of (StF.zero.with b) (by show 1 ≤ 256; decide) fun c _ => by simp [hasC]

/-! Parts. -/
/-- What follows a part: nothing, or a sign that ends one. -/
theorem part_rest {G : List UInt8 → PR RT} : ∀ (f : Nat) (l : List UInt8) (ts us : List RT) (r : List UInt8), partLoop withW notW orW G f l ts = .ok (us, r) → r = [] ∨ r.head? = some 124 ∨ r.head? = some 41
  | 0, _, _, _, _, h => by cases h
  | f + 1, l, ts, us, r, h => by
    unfold partLoop at h
    split at h
    · cases h; exact .inl rfl
    · rename_i c r1
      split at h
      · rename_i hc
        cases h
        rcases hc with rfl | rfl
        · exact .inr (.inl rfl)
        · exact .inr (.inr rfl)
      · split at h
        · split at h
          · cases h
          · exact part_rest f _ _ _ _ h
        · split at h
          · cases h
          · exact part_rest f _ _ _ _ h
/-- A part, as the document's reader reads it: on the outermost level a bracket that closes nothing is told at once. -/
def catX (dp : Nat) (G : List UInt8 → PR RT) (l : List UInt8) : PR RT :=
  match partR withW notW orW G l with
  | .error x => .error x
  | .ok (t, r) => if dp = 0 ∧ r.head? = some 41 then .error (r.length, 9) else .ok (t, r)
def altLoop (dp : Nat) (G : List UInt8 → PR RT) : Nat → List UInt8 → List RT → PR (List RT)
  | 0, _, _ => .error (0, 0)
  | f + 1, l, ts => match l with
    | [] => .ok (ts, [])
    | c :: r => if c = 124 then (match catX dp G r with
        | .error x => .error x
        | .ok (t, r2) => altLoop dp G f r2 (ts ++ [t]))
      else .ok (ts, c :: r)
def altX (dp : Nat) (G : List UInt8 → PR RT) (l : List UInt8) : PR RT :=
  match catX dp G l with
  | .error x => .error x
  | .ok (t, r) => match altLoop dp G (r.length + 1) r [t] with
    | .error x => .error x
    | .ok (ts, r2) => .ok (gatherR 3 ts, r2)
theorem catX_in {dp : Nat} (h : dp ≠ 0) (G : List UInt8 → PR RT) (l : List UInt8) : catX dp G l = partR withW notW orW G l := by
  unfold catX
  split
  · rename_i e; rw [e]
  · rename_i e; rw [e, if_neg (fun h2 => h h2.1)]
theorem altLoop_in {dp : Nat} (h : dp ≠ 0) (G : List UInt8 → PR RT) : ∀ (f : Nat) (l : List UInt8) (ts : List RT), altLoop dp G f l ts = patLoop withW notW orW G f l ts
  | 0, _, _ => rfl
  | f + 1, [], ts => rfl
  | f + 1, c :: r, ts => by
    unfold altLoop patLoop
    simp only []
    rw [catX_in h]
    by_cases hc : c = 124
    · rw [if_pos hc, if_pos hc]
      cases partR withW notW orW G r with
      | error x => rfl
      | ok x => obtain ⟨t, r2⟩ := x; exact altLoop_in h G f _ _
    · rw [if_neg hc, if_neg hc]
theorem altX_in {dp : Nat} (h : dp ≠ 0) (G : List UInt8 → PR RT) (l : List UInt8) : altX dp G l = patR withW notW orW G l := by
  unfold altX patR
  rw [catX_in h]
  cases partR withW notW orW G l with
  | error x => rfl
  | ok x =>
    obtain ⟨t, r⟩ := x
    simp only []
    rw [altLoop_in h]
    rfl
theorem partR_rest {G : List UInt8 → PR RT} {l : List UInt8} {t : RT} {r : List UInt8} (h : partR withW notW orW G l = .ok (t, r)) : r = [] ∨ r.head? = some 124 ∨ r.head? = some 41 := by
  unfold partR at h
  split at h
  · cases h
  · rename_i e
    cases h
    exact part_rest _ _ _ _ _ e
/-- What the outermost level makes of what parts answer. -/
def endX (X : PR (List RT)) : PR (List RT) := match X with
  | .error x => .error x
  | .ok (ts, r) => if r.head? = some 41 then .error (r.length, 9) else .ok (ts, r)
theorem altLoop_top (G : List UInt8 → PR RT) (hG : ∀ l t r, partR withW notW orW G l = .ok (t, r) → r.length ≤ l.length) : ∀ (f : Nat) (l : List UInt8) (ts : List RT), l.length < f → l.head? ≠ some 41 → altLoop 0 G f l ts = endX (patLoop withW notW orW G f l ts)
  | 0, l, _, h, _ => by omega
  | f + 1, [], ts, _, _ => rfl
  | f + 1, c :: r, ts, hf, hc => by
    unfold altLoop patLoop
    simp only []
    by_cases h124 : c = 124
    · rw [if_pos h124, if_pos h124]
      unfold catX
      cases hp : partR withW notW orW G r with
      | error x => rfl
      | ok x =>
        obtain ⟨t, r2⟩ := x
        have hl := hG _ _ _ hp
        simp only [List.length_cons] at hf
        by_cases h41 : r2.head? = some 41
        · simp only [h41, and_self, if_true]
          obtain ⟨g, rfl⟩ : ∃ g, f = g + 1 := ⟨f - 1, by omega⟩
          unfold patLoop
          cases r2 with
          | nil => cases h41
          | cons x r3 =>
            have hx : x = 41 := Option.some.inj h41
            subst hx
            rfl
        · simp only [h41, and_false, if_false]
          exact altLoop_top G hG f r2 _ (by omega) h41
    · rw [if_neg h124, if_neg h124]
      unfold endX
      simp only []
      rw [if_neg hc]
theorem patLoop_rest (G : List UInt8 → PR RT) : ∀ (f : Nat) (l : List UInt8) (ts us : List RT) (r : List UInt8), (l = [] ∨ l.head? = some 124 ∨ l.head? = some 41) → patLoop withW notW orW G f l ts = .ok (us, r) → r = [] ∨ r.head? = some 41
  | 0, _, _, _, _, _, h => by cases h
  | f + 1, [], ts, us, r, _, h => by unfold patLoop at h; cases h; exact .inl rfl
  | f + 1, c :: r1, ts, us, r, hl, h => by
    unfold patLoop at h
    simp only [] at h
    split at h
    · split at h
      · cases h
      · rename_i hp
        exact patLoop_rest G f _ _ _ _ (partR_rest hp) h
    · rename_i hc
      cases h
      rcases hl with hl | hl | hl
      · cases hl
      · exact absurd (Option.some.inj hl) hc
      · exact .inr hl
/-- The outermost level is the whole. -/
theorem altX_top (l : List UInt8) : altX 0 (grpR withW notW orW 20) l = topR withW notW orW l := by
  have hG : ∀ l t r, partR withW notW orW (grpR withW notW orW 20) l = .ok (t, r) → r.length ≤ l.length := fun l t r h => by
    have := (part_fine (grp_fine 20) h).2; omega
  unfold topR altX patR catX
  cases hp : partR withW notW orW (grpR withW notW orW 20) l with
  | error x => rfl
  | ok x =>
    obtain ⟨t, r⟩ := x
    simp only []
    by_cases h41 : r.head? = some 41
    · simp only [h41, and_self, if_true]
      cases r with
      | nil => cases h41
      | cons c r1 =>
        have hc : c = 41 := Option.some.inj h41
        subst hc
        rfl
    · simp only [h41, and_false, if_false]
      rw [altLoop_top _ hG _ _ _ (Nat.lt_succ_self _) h41]
      have hr := patLoop_rest (grpR withW notW orW 20) (r.length + 1) r [t]
      cases hq : patLoop withW notW orW (grpR withW notW orW 20) (r.length + 1) r [t] with
      | error x => rfl
      | ok x =>
        obtain ⟨us, r2⟩ := x
        rcases hr us r2 (partR_rest hp) hq with h | h
        · subst h; rfl
        · unfold endX
          simp only []
          rw [if_pos h]
          cases r2 with
          | nil => cases h
          | cons c r3 => rfl
end Go.Proofs.YtjjejcgpeefclaaDoor

namespace Go.Proofs.YtjjejcgpeefclaaDoor
open Go.RowKit

theorem rq_drop (s : ByteArray) (q : Nat) (h : q < s.size) : s.data.toList.drop q = s[q] :: s.data.toList.drop (q + 1) := by
  have hl : q < s.data.toList.length := by simpa using h
  rw [List.drop_eq_getElem_cons hl]; rfl
theorem rq_len (s : ByteArray) (q : Nat) : (s.data.toList.drop q).length = s.size - q := by simp
theorem rq_nil (s : ByteArray) (q : Nat) (h : ¬ q < s.size) : s.data.toList.drop q = [] := List.drop_of_length_le (by simp; omega)
theorem nextR_at (s : ByteArray) (q : Nat) (h : q < s.size) : nextR (s.data.toList.drop q) = if s[q] = 92 then (match escO s (q + 1) with | none => .error (s.size - q, 9) | some x => .ok (x, s.data.toList.drop (q + 2))) else .ok (s[q], s.data.toList.drop (q + 1)) := by
  rw [rq_drop s q h]
  unfold nextR
  simp only []
  by_cases h92 : s[q] = 92
  · rw [if_pos h92, if_pos h92]
    unfold escO
    by_cases h2 : q + 1 < s.size
    · rw [dif_pos h2, rq_drop s (q + 1) h2]
      simp only []
      cases escB s[q + 1] with
      | none =>
        simp only []
        rw [rq_len, show s.size - (q + 1 + 1) + 2 = s.size - q by omega]
      | some x => rfl
    · rw [dif_neg h2, rq_nil s (q + 1) h2]
      simp only []
      rw [show s.size - q = 1 by omega]
  · rw [if_neg h92, if_neg h92]
def dashAt (s : ByteArray) (q : Nat) : Bool := if h : q + 1 < s.size then s[q] == 45 && s[q + 1] != 93 else false
theorem dashB_at (s : ByteArray) (q : Nat) : dashB (s.data.toList.drop q) = dashAt s q := by
  unfold dashAt
  by_cases h : q + 1 < s.size
  · rw [dif_pos h, rq_drop s q (by omega), rq_drop s (q + 1) h]; rfl
  · rw [dif_neg h]
    by_cases h2 : q < s.size
    · rw [rq_drop s q h2, rq_nil s (q + 1) h]; rfl
    · rw [rq_nil s q h2]; rfl
def finX (nt : Bool) (X : PR W4) : PR RT := match X with
  | .error x => .error x
  | .ok (s, r) => .ok (.mk 1 (if nt then notW s else s) [], r)
/-- What is still to be read of a set, i items having been read. -/
def SetEq (n : Nat) (nt : Bool) (X : PR RT) (i : Nat) (has : List UInt8) (l : List UInt8) : Prop :=
  (i = 0 ∧ has = [] ∧ X = (match spanR withW n l with | .error x => .error x | .ok (t, r) => finX nt (setLoop withW orW n (r.length + 1) r t))) ∨
  (1 ≤ i ∧ ∃ f S, l.length < f ∧ X = finX nt (setLoop withW orW n f l S) ∧ StF (hasC has) S)
theorem SetEq.start (l : List UInt8) : SetEq (l.length + 1) (decide (l.head? = some 94)) (setR withW notW orW l) 0 [] (if l.head? = some 94 then l.drop 1 else l) := by
  refine .inl ⟨rfl, rfl, ?_⟩
  unfold setR finX
  simp only [decide_eq_true_eq]
  cases spanR withW (l.length + 1) (if l.head? = some 94 then l.drop 1 else l) with
  | error x => rfl
  | ok x =>
    obtain ⟨t, r⟩ := x
    simp only []
    cases setLoop withW orW (l.length + 1) (r.length + 1) r t with
    | error y => rfl
    | ok y => rfl
theorem SetEq.none {n : Nat} {nt : Bool} {X : PR RT} {i : Nat} {has : List UInt8} (h : SetEq n nt X i has []) : X = .error (n, 9) := by
  rcases h with ⟨_, _, h⟩ | ⟨_, f, S, hf, h, _⟩
  · rw [h]; rfl
  · obtain ⟨g, rfl⟩ : ∃ g, f = g + 1 := ⟨f - 1, by simp at hf; omega⟩
    rw [h]; rfl
theorem SetEq.close {n : Nat} {nt : Bool} {X : PR RT} {i : Nat} {has r : List UInt8} (h : SetEq n nt X i has (93 :: r)) (hi : 1 ≤ i) : ∃ S, X = .ok (.mk 1 (if nt then notW S else S) [], r) ∧ StF (hasC has) S := by
  rcases h with ⟨h0, _⟩ | ⟨_, f, S, hf, h, hS⟩
  · omega
  · obtain ⟨g, rfl⟩ : ∃ g, f = g + 1 := ⟨f - 1, by simp at hf; omega⟩
    exact ⟨S, by rw [h]; rfl, hS⟩
theorem SetEq.bad {n : Nat} {nt : Bool} {X : PR RT} {i : Nat} {has r : List UInt8} {c : UInt8} {x : ER} (h : SetEq n nt X i has (c :: r)) (hc : c ≠ 93 ∨ i = 0) (hx : spanR withW n (c :: r) = .error x) : X = .error x := by
  rcases h with ⟨h0, _, h⟩ | ⟨h1, f, S, hf, h, hS⟩
  · rw [h, hx]
  · obtain ⟨g, rfl⟩ : ∃ g, f = g + 1 := ⟨f - 1, by simp at hf; omega⟩
    have hc : c ≠ 93 := hc.resolve_right (by omega)
    rw [h]
    unfold setLoop
    simp only []
    rw [if_neg hc, hx]; rfl
theorem SetEq.more {n : Nat} {nt : Bool} {X : PR RT} {i : Nat} {has r r2 : List UInt8} {c lo hi : UInt8} (h : SetEq n nt X i has (c :: r)) (hc : c ≠ 93 ∨ i = 0) (hx : spanR withW n (c :: r) = .ok (rangeW withW lo hi, r2)) (hl : r2.length ≤ r.length) : SetEq n nt X (i + 1) (has ++ rngL lo.toNat (hi.toNat + 1 - lo.toNat)) r2 := by
  rcases h with ⟨h0, he, h⟩ | ⟨h1, f, S, hf, h, hS⟩
  · subst he
    refine .inr ⟨by omega, r2.length + 1, _, by omega, by rw [h, hx], (rangeW_set lo hi).congr fun z => by simp⟩
  · obtain ⟨g, rfl⟩ : ∃ g, f = g + 1 := ⟨f - 1, by simp at hf; omega⟩
    have hc : c ≠ 93 := hc.resolve_right (by omega)
    simp only [List.length_cons] at hf
    refine .inr ⟨by omega, g, orW S (rangeW withW lo hi), by omega, ?_, (hS.orS (rangeW_set lo hi)).congr fun z => by rw [hasC_app]⟩
    rw [h]
    conv => lhs; unfold setLoop
    simp only []
    rw [if_neg hc, hx]
/-! An item, by places. -/
theorem span_bad1 {n : Nat} {s : ByteArray} {q : Nat} (h : q < s.size) {x : ER} (hx : nextR (s.data.toList.drop q) = .error x) : spanR withW n (s.data.toList.drop q) = .error x := by
  rw [rq_drop s q h] at hx ⊢
  unfold spanR
  simp only []
  rw [hx]
theorem span_one {n : Nat} {s : ByteArray} {q q1 : Nat} (h : q < s.size) {lo : UInt8} (hx : nextR (s.data.toList.drop q) = .ok (lo, s.data.toList.drop q1)) (hd : dashAt s q1 = false) : spanR withW n (s.data.toList.drop q) = .ok (rangeW withW lo lo, s.data.toList.drop q1) := by
  rw [← dashB_at] at hd
  rw [rq_drop s q h] at hx ⊢
  unfold spanR
  simp only []
  rw [hx]
  simp only [hd]
  rfl
theorem span_bad2 {n : Nat} {s : ByteArray} {q q1 : Nat} (h : q < s.size) {lo : UInt8} {x : ER} (hx : nextR (s.data.toList.drop q) = .ok (lo, s.data.toList.drop q1)) (hd : dashAt s q1 = true) (hy : nextR (s.data.toList.drop (q1 + 1)) = .error x) : spanR withW n (s.data.toList.drop q) = .error x := by
  rw [← dashB_at] at hd
  rw [rq_drop s q h] at hx ⊢
  unfold spanR
  simp only []
  rw [hx]
  simp only [hd, if_true]
  rw [List.drop_drop, hy]
theorem span_two {n : Nat} {s : ByteArray} {q q1 q2 : Nat} (h : q < s.size) {lo hi : UInt8} (hx : nextR (s.data.toList.drop q) = .ok (lo, s.data.toList.drop q1)) (hd : dashAt s q1 = true) (hy : nextR (s.data.toList.drop (q1 + 1)) = .ok (hi, s.data.toList.drop q2)) :
    spanR withW n (s.data.toList.drop q) = if hi < lo then .error (n, 9) else .ok (rangeW withW lo hi, s.data.toList.drop q2) := by
  rw [← dashB_at] at hd
  rw [rq_drop s q h] at hx ⊢
  unfold spanR
  simp only []
  rw [hx]
  simp only [hd, if_true]
  rw [List.drop_drop, hy]
end Go.Proofs.YtjjejcgpeefclaaDoor
