/-
 CONTRACT of layer 13's Parse: any text of at most 4000 bytes.
-/
import Derived.Test.YtmbfdkiejneheaaGreatDoorLxM
import Derived.Test.YtmbfdkiejneheaaGreatDoorPaP
import Derived.Test.YtmbfdkiejneheaaGreatDoorLxW2
namespace Go.Proofs.YtmbfdkiejneheaaGreatDoor

theorem kind_pos (a b : List UInt8) : kindL a b ≠ 0 := by
 unfold kindL
 split
 ·
  decide
 ·
  split
  ·
   decide
  ·
   split
   ·
    decide
   ·
    split <;> decide
theorem step_kind {rx : Bool} {l : List UInt8} {k : Nat} {t : List UInt8} {z : Nat} (h : stepL rx l = .tok k t z) : k ≠ 0 := by
 cases l with
 | nil => cases h
 | cons c r =>
  rw [step_cons] at h
  have hq : ∀ j q, j ≠ 0 → St.ofQ j q = .tok k t z → k ≠ 0 := fun j q hj e => by cases q <;> simp [St.ofQ] at e; obtain ⟨rfl, _⟩ := e; exact hj
  split at h
  ·
   cases h; decide
  split at h
  ·
   exact hq 3 _ (by decide) h
  split at h
  ·
   exact hq 4 _ (by decide) h
  split at h
  ·
   injection h with h1 h2 h3; rw [← h1]; exact kind_pos _ _
  split at h
  ·
   cases h; decide
  split at h
  ·
   cases h; decide
  ·
   cases h
/-- What Lex's tokens are like. -/
def Rise (p q : Nat) : List Tok → Prop
 | [] => True
 | t :: r => p ≤ t.a ∧ t.a < q ∧ t.k ≠ 0 ∧ Rise (t.a + 1) q r
theorem Rise.mono {p p' q : Nat} : ∀ {r : List Tok}, Rise p q r → p' ≤ p → Rise p' q r
 | [], _, _ => trivial
 | _ :: _, h, hp => ⟨by have := h.1; omega, h.2⟩
theorem lexF_rise : ∀ (n : Nat) (rx : Bool) (p : Nat) (l : List UInt8) (r : List Tok), lexF n rx p l = .ok r → Rise p (p + l.length) r
 | 0, _, _, _, r, h => by cases h; trivial
 | n + 1, rx, p, l, r, h => by
  unfold lexF at h
  cases hst : stepL rx (l.drop (blankL l)) with
  | eof => rw [hst] at h; cases h; trivial
  | bad o => rw [hst] at h; cases h
  | tok k t z =>
   rw [hst] at h
   simp only [] at h
   have h1 := (step_le rx _).1 _ _ _ hst
   have h2 : (l.drop (blankL l)).length = l.length - blankL l := List.length_drop
   have h3 := blank_le l
   cases hx : lexF n (rxA k t) (p + blankL l + z) (l.drop (blankL l + z)) with
   | error e => rw [hx] at h; cases h
   | ok r' =>
    rw [hx] at h
    cases h
    have ih := lexF_rise n _ _ _ _ hx
    have h4 : (l.drop (blankL l + z)).length = l.length - (blankL l + z) := List.length_drop
    rw [h4, show p + blankL l + z + (l.length - (blankL l + z)) = p + l.length from by omega] at ih
    exact ⟨by show p ≤ p + blankL l; omega, by show p + blankL l < _; omega, step_kind hst, ih.mono (by show p + blankL l + 1 ≤ _; omega)⟩
theorem lexF_err : ∀ (n : Nat) (rx : Bool) (p : Nat) (l : List UInt8) (e : Nat), lexF n rx p l = .error e → e < p + l.length
 | 0, _, _, _, _, h => by cases h
 | n + 1, rx, p, l, e, h => by
  unfold lexF at h
  have h2 : (l.drop (blankL l)).length = l.length - blankL l := List.length_drop
  have h3 := blank_le l
  cases hst : stepL rx (l.drop (blankL l)) with
  | eof => rw [hst] at h; cases h
  | bad o => rw [hst] at h; cases h; have := (step_le rx _).2 _ hst; omega
  | tok k t z =>
   rw [hst] at h
   simp only [] at h
   have h1 := (step_le rx _).1 _ _ _ hst
   cases hx : lexF n (rxA k t) (p + blankL l + z) (l.drop (blankL l + z)) with
   | ok r' => rw [hx] at h; cases h
   | error e' =>
    rw [hx] at h
    cases h
    have ih := lexF_err n _ _ _ _ hx
    have h4 : (l.drop (blankL l + z)).length = l.length - (blankL l + z) := List.length_drop
    omega
theorem Rise.at : ∀ {p q : Nat} {r : List Tok} (_ : Rise p q r) (i : Nat) (hi : i < r.length), r[i].k ≠ 0 ∧ p ≤ r[i].a ∧ r[i].a < q ∧ (∀ _ : 0 < i, (r[i - 1]'(Nat.lt_of_le_of_lt (Nat.sub_le _ _) hi)).a < r[i].a)
 | _, _, t :: r, h, 0, _ => ⟨h.2.2.1, h.1, h.2.1, fun h => absurd h (by omega)⟩
 | p, q, t :: r, h, i + 1, hi => by
  have hi' : i < r.length := by simpa using hi
  obtain ⟨h1, h2, h3, h4⟩ := Rise.at h.2.2.2 i hi'
  have hp := h.1
  refine ⟨h1, by simp; omega, h3, fun _ => ?_⟩
  cases i with
  | zero => simp at h2 ⊢; omega
  | succ i => simpa using h4 (by omega)
/-- The row of all tokens, End the last. -/
theorem rise_row {n : Nat} {r : List Tok} (h : Rise 0 n r) (i : Nat) (hi : i < (r ++ [(⟨0, [], n⟩ : Tok)]).length) :
  (((r ++ [(⟨0, [], n⟩ : Tok)])[i]'hi).k = 0 ↔ i = r.length) ∧ (∀ _ : 0 < i, ((r ++ [(⟨0, [], n⟩ : Tok)])[i - 1]'(Nat.lt_of_le_of_lt (Nat.sub_le _ _) hi)).a < ((r ++ [(⟨0, [], n⟩ : Tok)])[i]'hi).a) := by
 rw [List.length_append, List.length_singleton] at hi
 by_cases hr : i < r.length
 ·
  obtain ⟨h1, _, _, h4⟩ := h.at i hr
  refine ⟨⟨fun e => ?_, fun e => by omega⟩, fun h0 => ?_⟩
  ·
   rw [List.getElem_append_left hr] at e; exact absurd e h1
  ·
   rw [List.getElem_append_left hr, List.getElem_append_left (by omega)]; exact h4 h0
 ·
  obtain rfl : i = r.length := by omega
  refine ⟨⟨fun _ => rfl, fun _ => by simp⟩, fun h0 => ?_⟩
  rw [List.getElem_append_left (by omega), List.getElem_append_right (Nat.le_refl _)]
  simpa using (h.at (r.length - 1) (by omega)).2.2.1
theorem Rise.len : ∀ {p q : Nat} {r : List Tok}, Rise p q r → p ≤ q → p + r.length ≤ q
 | _, _, [], _, hp => hp
 | _, _, _ :: _, h, _ => by
  have := h.2.2.2.len (by have := h.2.1; omega)
  have := h.1
  simp only [List.length_cons]; omega
end Go.Proofs.YtmbfdkiejneheaaGreatDoor

namespace Go.Proofs.YtmbfdkiejneheaaGreatDoor

/-- What the document's Parse answers. -/
def parseW (reOk : List UInt8 → Bool) (s : List UInt8) : Except (Nat × Nat) PT := match lexL s with
 | .error p => .error (p, 9)
 | .ok l => match progP reOk (l ++ [⟨0, [], s.length⟩]) with
  | .error e => .error e
  | .ok (t, _) => .ok t
theorem parseW_ok {reOk : List UInt8 → Bool} {s : List UInt8} {t : PT} (h : parseW reOk s = .ok t) : ∃ l l2, lexL s = .ok l ∧ progP reOk (l ++ [⟨0, [], s.length⟩]) = .ok (t, l2) := by
 unfold parseW at h
 cases hl : lexL s with
 | error p => rw [hl] at h; cases h
 | ok l =>
  rw [hl] at h
  simp only at h
  cases hp : progP reOk (l ++ [⟨0, [], s.length⟩]) with
  | error e => rw [hp] at h; cases h
  | ok x =>
   obtain ⟨u, l2⟩ := x
   rw [hp] at h
   injection h with h
   subst h
   exact ⟨l, l2, rfl, hp⟩
theorem parseW_of {reOk : List UInt8 → Bool} {s : List UInt8} {t : PT} {l l2 : List Tok} (hl : lexL s = .ok l) (hp : progP reOk (l ++ [⟨0, [], s.length⟩]) = .ok (t, l2)) : parseW reOk s = .ok t := by
 unfold parseW
 rw [hl]
 simp only
 rw [hp]
theorem rise_mem : ∀ {l : List Tok} {p q : Nat}, Rise p q l → ∀ x ∈ l, x.k ≠ 0 ∧ x.a < q := fun {l p q} h x hx => by
 obtain ⟨i, hi, rfl⟩ := List.mem_iff_getElem.1 hx
 have := h.at i hi
 exact ⟨this.1, this.2.2.1⟩
theorem lex_rise {s : List UInt8} {l : List Tok} (h : lexL s = .ok l) : Rise 0 s.length l := by
 have := lexF_rise _ _ _ _ _ h
 rwa [Nat.zero_add] at this
theorem lex_tl {s : List UInt8} {l : List Tok} (h : lexL s = .ok l) (n : Nat) : Tl (l ++ [⟨0, [], n⟩]) := ⟨l, _, rfl, rfl, fun x hx => (rise_mem (lex_rise h) x hx).1⟩
end Go.Proofs.YtmbfdkiejneheaaGreatDoor

namespace Go.Proofs.YtmbfdkiejneheaaGreatDoor
open Go.RowKit

/-- What the document's Parse answers. -/
def parseL (s : List UInt8) : Except (Nat × Nat) PT := parseW reB s
theorem lex_len {s : List UInt8} {l : List Tok} (h : lexL s = .ok l) : l.length ≤ s.length := by
 have := (lex_rise h).len (Nat.zero_le _)
 omega
theorem lex_place {s : List UInt8} {l : List Tok} (h : lexL s = .ok l) : ∀ x ∈ l ++ [(⟨0, [], s.length⟩ : Tok)], x.a ≤ s.length := fun x hx => by
 rcases List.mem_append.1 hx with h1 | h1
 ·
  exact Nat.le_of_lt (rise_mem (lex_rise h) x h1).2
 ·
  rw [List.mem_singleton] at h1
  subst h1
  exact Nat.le_refl _
theorem lexF_errle {s : List UInt8} {p : Nat} (h : lexL s = .error p) : p ≤ s.length := by
 have := lexF_err _ _ _ _ _ h
 omega
/-- An error's place and code. -/
theorem parse_told {s : List UInt8} {q : Nat × Nat} (h : parseL s = .error q) : q.1 ≤ s.length ∧ (q.2 = 9 ∨ q.2 = 10 ∨ q.2 = 14) := by
 unfold parseL parseW at h
 cases hl : lexL s with
 | error p =>
  rw [hl] at h
  injection h with h
  subst h
  exact ⟨lexF_errle hl, .inl rfl⟩
 | ok l =>
  rw [hl] at h
  simp only at h
  have hg := good_prog reB _ (lex_tl hl s.length)
  cases hp : progP reB (l ++ [⟨0, [], s.length⟩]) with
  | error e =>
   rw [hp] at h hg
   injection h with h
   subst h
   obtain ⟨⟨x, hx, h1⟩, h2⟩ := hg
   exact ⟨h1 ▸ lex_place hl x hx, h2⟩
  | ok x =>
   rw [hp] at h
   cases h
theorem prog_op (reOk : List UInt8 → Bool) : ∀ (n : Nat) (l : List Tok) (ts : List PT) (t : PT) (l2 : List Tok), itemsL reOk n l ts = .ok (t, l2) → t.op = [112, 114, 111, 103, 114, 97, 109]
 | 0, _, _, _, _, h => by cases h
 | n + 1, l, ts, t, l2, h => by
  unfold itemsL at h
  split at h
  ·
   injection h with h; injection h with h _; subst h; rfl
  ·
   cases hx : itemP reOk (sepsP l) with
   | error e => rw [hx, bnd_err] at h; cases h
   | ok x =>
    obtain ⟨u, l3⟩ := x
    rw [hx, bnd_ok] at h
    exact prog_op reOk n l3 _ t l2 h
theorem parse_op {s : List UInt8} {t : PT} (h : parseL s = .ok t) : t.op = [112, 114, 111, 103, 114, 97, 109] := by
 unfold parseL parseW at h
 cases hl : lexL s with
 | error p => rw [hl] at h; cases h
 | ok l =>
  rw [hl] at h
  simp only at h
  cases hp : progP reB (l ++ [⟨0, [], s.length⟩]) with
  | error e => rw [hp] at h; cases h
  | ok x =>
   rw [hp] at h
   injection h with h
   subst h
   exact prog_op reB _ _ _ _ x.2 hp
/-- The tokens' block has room for them. -/
theorem lex_ok2 (s : ByteArray) (l : List Tok) (w : World) (hs : s.size ≤ 4000) (h : lexL s.data.toList = .ok l) : Calls Tryz.prog 15 #[.string s] w fun e w' =>
  ∃ g c, e = .returned (.tuple #[.slice (some ⟨g, 0, none⟩) (l.length + 1) c, .int .i64 0, .int .i64 0]) ∧ TAt w' g (l ++ [endT s.size]) ∧ l.length + 1 ≤ c ∧ w.heap.size ≤ g ∧ Below w.heap.size w w' := by
 refine (lex_any s w hs).mono ?_
 intro e w' hp
 rw [h] at hp
 obtain ⟨⟨g, c, h1, h2⟩, h3⟩ := hp
 refine ⟨g, c, h1, TAt.own (by simp) h2, ?_, (own_base h2 g rfl).1, h3⟩
 rcases h2.2 with ⟨e1, _⟩ | ⟨g', cap, cur, e1, _, _, hc, _⟩
 ·
  cases e1
 ·
  injection e1 with _ _ e3
  omega
/-- What Parse leaves. -/
def PsPost (X : Except (Nat × Nat) PT) (w : World) (e : Ending) (w' : World) : Prop :=
 Below w.heap.size w w' ∧ match X with
 | .error q => e = .returned (.tuple #[.agg #[.string ⟨#[]⟩, .string ⟨#[]⟩, .int .i64 0, .slice none 0 0], .int .i64 q.1, .int .i64 q.2])
 | .ok t => ∃ n, e = .returned (.tuple #[An.val n, .int .i64 0, .int .i64 0]) ∧ TreeP w' (fun k => w.heap.size ≤ k) t n
theorem below_putA {B g : Nat} {u w : World} (h : Below B u w) (hg : B ≤ g) (n : An) : Below B u (putA w g n) :=
 (((h.setCell (p := ⟨g, 0, none⟩) hg _).setCell (p := ⟨g, 1, none⟩) hg _).setCell (p := ⟨g, 2, none⟩) hg _).setCell (p := ⟨g, 3, none⟩) hg _
set_option maxHeartbeats 8000000 in
set_option maxRecDepth 100000 in
theorem parse_any (s : ByteArray) (w : World) (hs : s.size ≤ 4000) : Calls Tryz.prog 11 #[.string s] w (PsPost (parseL s.data.toList) w) := by
 have HB0 := kH ((Below.refl w.heap.size w).alloc (Nat.le_refl _) zN)
 have HN0 := kH (BlkA.new0 w)
 cases hl : lexL s.data.toList with
 | error p =>
  have HX : Hid (parseL s.data.toList = .error (p, 9)) := kH (by unfold parseL parseW; rw [hl])
  have CL := kH fun W => lex_err s p W hs hl
  clear hl
  go_enter Tryz.func11, Tryz.ntmps11
  go_wp2_with fail
  generalize w.alloc zN = w0 at *
  refine (CL.out _).mono ?_
  rintro e w1 ⟨rfl, hb1⟩
  have HN := kH (HN0.out.below hb1)
  have HB := kH (HB0.out.trans (hb1.mono HB0.out.size))
  clear hb1
  obtain ⟨z0, z1, z2, z3, zk0, zk1, zk2, zk3⟩ := HN.out.cells
  go_wp2_with fail
  refine bodyPost_ret (v := .tuple #[An.val An.zero, .int .i64 (p : Int), .int .i64 9]) (by simp [results, Tryz.results11, go_sem, An.val, An.zero, z0, z1, z2, z3]) rfl ?_
  rw [HX.out]
  exact ⟨below_putA HB.out (Nat.le_refl _) An.zero, rfl⟩
 | ok l =>
  have CL := kH fun W => lex_ok2 s l W hs hl
  have HTL : Hid (Tl (l ++ [endT s.size])) := kH (by have := lex_tl hl s.size; exact this)
  have HLL : Hid (l.length ≤ 4000) := kH (by have := lex_len hl; rw [ba_sz] at this; omega)
  have HX : Hid (parseL s.data.toList = match progP reB (l ++ [endT s.size]) with | .error e => .error e | .ok (t, _) => .ok t) := kH (by
   unfold parseL parseW; rw [hl, ba_sz]; rfl)
  have CP := kH fun K L W hW => pprog_any (K := K) reOk_any (pstmt_all reOk_any) L none W hW
  clear hl
  go_enter Tryz.func11, Tryz.ntmps11
  go_wp2_with fail
  generalize w.alloc zN = w0 at *
  refine (CL.out _).mono ?_
  rintro e w1 ⟨g, c, rfl, ht1, hc1, hg1, hb1⟩
  have HN := kH (HN0.out.below hb1)
  have HB := kH (HB0.out.trans (hb1.mono HB0.out.size))
  have HT := kH ht1
  have HC := kH hc1
  clear hb1 ht1 hc1
  go_wp2_with fail
  have hP : Pst (w1.alloc (.cells #[.slice (some ⟨g, 0, none⟩) (l.length + 1) c, .int .i64 0, .int .i64 0, .bool false, .int .i64 0, .int .i64 0] 42)) ⟨w1.heap.size, g, c, l ++ [endT s.size]⟩ (l ++ [endT s.size]) 0 false none := by
   refine ⟨?_, HT.out.below ((Below.refl _ _).alloc (Nat.le_refl _) _) (Nat.le_refl _), HTL.out, List.suffix_refl _, HTL.out.ne, by have := HLL.out; simp; omega, Nat.ne_of_lt HT.out.lt, fun h => absurd rfl h, fun e h => (by cases h), by have := HC.out; simp; omega⟩
   have := heap_alloc_new w1 (.cells #[.slice (some ⟨g, 0, none⟩) (l.length + 1) c, .int .i64 0, .int .i64 0, .bool false, .int .i64 0, .int .i64 0] 42)
   unfold Rd
   simpa using this
  have HN := kH (HN.out.alloc (.cells #[.slice (some ⟨g, 0, none⟩) (l.length + 1) c, .int .i64 0, .int .i64 0, .bool false, .int .i64 0, .int .i64 0] 42))
  have HB := kH (HB.out.alloc HB.out.size (.cells #[.slice (some ⟨g, 0, none⟩) (l.length + 1) c, .int .i64 0, .int .i64 0, .bool false, .int .i64 0, .int .i64 0] 42))
  have HZ : Hid (w.heap.size < w1.heap.size ∧ w1.heap.size < (w1.alloc (.cells #[.slice (some ⟨g, 0, none⟩) (l.length + 1) c, .int .i64 0, .int .i64 0, .bool false, .int .i64 0, .int .i64 0] 42)).heap.size) := kH ⟨by have := HT.out.lt; have := HB0.out.size; omega, by simp⟩
  have CP := kH (CP.out _ _ _ hP)
  clear hP hg1
  refine CP.out.mono ?_
  clear CP
  generalize w1.alloc (.cells #[.slice (some ⟨g, 0, none⟩) (l.length + 1) c, .int .i64 0, .int .i64 0, .bool false, .int .i64 0, .int .i64 0] 42) = w2 at *
  generalize w1.heap.size = gR at *
  rintro e w3 ⟨t, n, l2, er2, rfl, r2, m2, tr2⟩
  have HN := kH (HN.out.onl m2.2 (show w.heap.size ≠ gR from by have := HZ.out; omega))
  have HB := kH (HB.out.trans (m2.2.below (B := w.heap.size) (Nat.le_of_lt HZ.out.1) HB.out.size))
  have HT3 := kH (tr2.low (B1 := w.heap.size + 1) (by have := HZ.out; omega))
  have HS3 := kH m2.2.size
  have H3 := kH m2.st
  unfold An.val
  have HNV := kH (BlkA.new w3 n)
  have HN := kH (HN.out.alloc (nB n))
  have HB := kH (HB.out.alloc HB.out.size (nB n))
  have H3 := kH (H3.out.alloc (nB n))
  have HT3 := kH (HT3.out.below ((Below.refl _ _).alloc (Nat.le_refl _) (nB n)))
  have HQ : Hid (w.heap.size ≠ w3.heap.size) := kH (by have := HZ.out; have := HS3.out; omega)
  rcases r2.alt with ⟨hx, rfl⟩ | ⟨q, hx, rfl, -⟩
  ·
   have HX : Hid (parseL s.data.toList = .ok t) := kH (by rw [HX.out, hx])
   clear hx r2 m2 tr2 HT
   obtain ⟨c0, c1, c2, c3, c4, c5, f1, f2, f3, f4, f5⟩ := H3.out.rd.cells
   simp only [Option.getD_none] at c4 c5
   obtain ⟨z0, z1, z2, z3, zk0, zk1, zk2, zk3⟩ := HN.out.cells
   obtain ⟨v0, v1, v2, v3, vk0, vk1, vk2, vk3⟩ := HNV.out.cells
   go_wp2_with fail
   refine bodyPost_ret (v := .tuple #[An.val n, .int .i64 0, .int .i64 0]) (by simp [results, Tryz.results11, go_sem, An.val, z0, z1, z2, z3]) rfl ?_
   rw [HX.out]
   exact ⟨below_putA HB.out (Nat.le_refl _) n, n, rfl, (HT3.out.putA (g := w.heap.size) (fun k hk _ => by omega) n).low (Nat.le_succ _)⟩
  ·
   have HX : Hid (parseL s.data.toList = .error q) := kH (by rw [HX.out, hx])
   have hq := H3.out.code q rfl
   clear hx r2 m2 tr2 HT
   obtain ⟨c0, c1, c2, c3, c4, c5, f1, f2, f3, f4, f5⟩ := H3.out.rd.cells
   simp only [Option.getD_some, Option.getD_none] at c4 c5
   obtain ⟨z0, z1, z2, z3, zk0, zk1, zk2, zk3⟩ := HN.out.cells
   obtain ⟨v0, v1, v2, v3, vk0, vk1, vk2, vk3⟩ := HNV.out.cells
   have hz0 : ((q.2 : Int) == 0) = false := by rw [beq_eq_false_iff_ne]; omega
   go_wp2_with fail
   go_region
   all_goals
    go_wp2_with fail
    refine bodyPost_ret (v := .tuple #[An.val An.zero, .int .i64 (q.1 : Int), .int .i64 (q.2 : Int)]) (by simp [results, Tryz.results11, go_sem, An.val, An.zero, z0, z1, z2, z3]) rfl ?_
    rw [HX.out]
    exact ⟨(below_putA HB.out (Nat.le_refl _) An.zero).drew, rfl⟩
end Go.Proofs.YtmbfdkiejneheaaGreatDoor
