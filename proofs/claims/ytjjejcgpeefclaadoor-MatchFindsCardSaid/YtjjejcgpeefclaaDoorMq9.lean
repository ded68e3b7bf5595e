/-
  MATHEMATICS of the document's own reader of parts (scriberef09.cat): where its loop stands, and what it says next.
-/
import Derived.Test.YtjjejcgpeefclaaDoorMq7
import Derived.Test.YtjjejcgpeefclaaDoorRgP
import Derived.Deep.CutRange
import Derived.Deep.DeepCutAuto
namespace Go.Proofs.YtjjejcgpeefclaaDoor
open Go.RowKit

theorem cat_results (w : World) (b t : Nat) (arr : Array Value) (s : ByteArray) (a dp er bd : Int) (nd : RNd) (h : Ss w b s a dp er bd) (h' : Rsn w t nd) (h2 : arr[2]?.getD undef = (.pointer (some ⟨b, 0, none⟩))) (h3 : arr[3]?.getD undef = (.pointer (some ⟨t, 0, none⟩))) :
    (results Tryd.f34 arr).run Tryd.prog w = .ok (.tuple #[rsv s a dp er bd, nd.val]) w := by
  obtain ⟨c0, c1, c2, c3, c4, -⟩ := h
  obtain ⟨d0, d1, d2, -⟩ := h'
  simp [results, Tryd.results34, go_sem, rsv, RNd.val, c0, c1, c2, c3, c4, d0, d1, d2, h2, h3]
set_option maxHeartbeats 4000000 in
set_option maxRecDepth 100000 in
/-- Of a reader that has gone wrong a part is nothing. -/
theorem scat_err (s : ByteArray) (a dp er bd : Int) (he : er ≠ 0) (_hs : s.size ≤ 300) (w : World) :
    Calls Tryd.prog 34 #[rsv s a dp er bd] w fun e W' => e = .returned (.tuple #[rsv s a dp er bd, RNd.zero.val]) ∧ Below w.heap.size w W' := by
  have CS := Lib.hid fun W => rsign_err s a dp er bd he W
  have H0 := Lib.hid ((Rs3.start w s a dp er bd 58).keep ((Below.refl _ _).alloc (Nat.le_refl _) (.cells #[] 30)))
  unfold rsv at CS
  show Calls Tryd.prog 34 #[.agg #[.string s, .int .i64 a, .int .i64 dp, .int .i64 er, .int .i64 bd]] w _
  go_enter Tryd.func34, Tryd.ntmps34
  go_wp2_with fail
  generalize hW : ((((w.alloc (.cells #[.string s, .int .i64 a, .int .i64 dp, .int .i64 er, .int .i64 bd] 58)).alloc (.cells #[.string ⟨#[]⟩, .int .i64 0, .int .i64 0, .int .i64 0, .int .i64 0] 58)).alloc (.cells #[.int .i64 0, .string ⟨#[]⟩, .slice none 0 0] 30)).alloc (.cells #[] 30)) = w1 at *
  go_loopw [4, 5] (fun lv iv wr => lv = .slice (some ⟨w.heap.size + 3, 0, none⟩) 0 0 ∧ iv = .int .i64 0 ∧ wr = w1) (fun _ _ _ => 0)
  case atStart => exact ⟨rfl, rfl, rfl⟩
  case round =>
    obtain ⟨rfl, rfl, rfl⟩ := hrel
    obtain ⟨c0, c1, c2, c3, c4, f0, f1, f2, f3, f4⟩ := H0.out.rs.own
    have hsi : (0 : Int) ≤ (s.size : Int) := by omega
    go_wp2_with fail
    refine (CS.out _).mono ?_
    rintro e w2 ⟨rfl, hb2⟩
    have H2 := Lib.hid (H0.out.keep hb2)
    clear hb2 H0 c0 c1 c2 c3 c4 f0 f1 f2 f3 f4 CS
    obtain ⟨c0, c1, c2, c3, c4, f0, f1, f2, f3, f4⟩ := H2.out.rs.own
    obtain ⟨r0, r1, r2, r3, r4, g0, g1, g2, g3, g4⟩ := H2.out.rs.res
    obtain ⟨n0, n1, n2, k0, k1, k2⟩ := H2.out.nod
    unfold RNd.zero at n0 n1 n2
    have HL := Lib.hid (H2.out.last a dp er bd RNd.zero)
    go_wp2_with fail
    refine bodyPost_ret (v := .tuple #[rsv s a dp er bd, RNd.zero.val]) ?_ ?_ ?_
    · exact cat_results _ _ _ _ _ _ _ _ _ _ HL.out.1 HL.out.2.1 rfl rfl
    · rfl
    · exact ⟨rfl, HL.out.2.2⟩
end Go.Proofs.YtjjejcgpeefclaaDoor

namespace Go.Proofs.YtjjejcgpeefclaaDoor
open Go.RowKit

/-- Where a part's loop stands, P being all of the part. -/
def CtSt (w : World) (s : ByteArray) (bd : Int) (G : List UInt8 → PR RT) (P : PR RT) (i : Nat) (a er b' : Int) (nds : List RNd) (v : Value) (wr : World) : Prop :=
  (er = 0 ∧ b' = bd ∧ ∃ (q f : Nat) (ts : List RT), a = (q : Int) ∧ i ≤ q ∧ q ≤ s.size ∧ (s.data.toList.drop q).length < f ∧ partF 2 (partLoop withW notW orW G f (s.data.toList.drop q) ts) = P ∧ (ts = [] ∨ ∀ c, (s.data.toList.drop q).head? = some c → signB c = false) ∧ TreesM wr (fun k => w.heap.size + 3 ≤ k ∧ v.ownBlock ≠ some k) ts nds) ∨
  (∃ n0 k : Nat, P = .error (n0, k) ∧ (k = 9 ∨ k = 14) ∧ n0 ≤ s.size ∧ er = (k : Int) ∧ b' = ((s.size - n0 : Nat) : Int))
/-- What the document's reader makes of a part at its end. -/
def endC (dp : Nat) (P : PR RT) : PR RT := match P with
  | .error x => .error x
  | .ok (t, r) => if dp = 0 ∧ r.head? = some 41 then .error (r.length, 9) else .ok (t, r)
theorem catX_end (dp : Nat) (G : List UInt8 → PR RT) (l : List UInt8) : catX dp G l = endC dp (partF 2 (partLoop withW notW orW G (l.length + 1) l [])) := by
  rw [← partR_eq]; rfl
/-- The end of a part, or a thing. -/
def CtEnd (w : World) (s : ByteArray) (bd : Int) (X : PR RT) (a er1 b1 : Int) (nds : List RNd) (v : Value) (wr : World) : Prop :=
  (∃ (r : List UInt8) (ts : List RT), er1 = 0 ∧ b1 = bd ∧ X = .ok (gatherR 2 ts, r) ∧ r <:+ s.data.toList ∧ a = ((s.size - r.length : Nat) : Int) ∧ TreesM wr (fun k => w.heap.size + 3 ≤ k ∧ v.ownBlock ≠ some k) ts nds) ∨
  (∃ n0 k : Nat, X = .error (n0, k) ∧ (k = 9 ∨ k = 14) ∧ n0 ≤ s.size ∧ er1 = (k : Int) ∧ b1 = ((s.size - n0 : Nat) : Int))
/-- What a round of a part's loop finds. -/
theorem ct_round {w : World} {s : ByteArray} {dp : Nat} {bd : Int} {G : List UInt8 → PR RT} {P : PR RT} {i : Nat} {a er b' : Int} {nds : List RNd} {v : Value} {wr : World} (hs : s.size ≤ 300) (h : CtSt w s bd G P i a er b' nds v wr) :
    ∃ (z : Int) (fl stop : Bool) (er1 b1 : Int), (∀ W, Calls Tryd.prog 35 #[rsv s a (dp : Int) er b'] W fun r w' => r = .returned (.int .i64 z) ∧ Below W.heap.size W w') ∧
      ((z == 41) = true ∧ fl = decide (dp = 0) ∨ (z == 41) = false ∧ fl = false) ∧
      (fl = false ∧ er1 = er ∧ b1 = b' ∨ fl = true ∧ ∀ W, Calls Tryd.prog 56 #[rsv s a (dp : Int) er b', .int .i64 a, .int .i64 9] W fun r w' => r = .returned (rsv s a (dp : Int) er1 b1) ∧ Below W.heap.size W w') ∧
      (stop = true ∧ (z < 0 ∨ ¬ z < 0 ∧ (z == 124) = true ∨ ¬ z < 0 ∧ (z == 124) = false ∧ (z == 41) = true) ∧ CtEnd w s bd (endC dp P) a er1 b1 nds v wr ∨
       stop = false ∧ ¬ z < 0 ∧ (z == 124) = false ∧ (z == 41) = false ∧ er = 0 ∧ b' = bd ∧ er1 = 0 ∧ b1 = bd ∧ ∃ (q f : Nat) (ts : List RT), a = (q : Int) ∧ i ≤ q ∧ ∃ hq : q < s.size, s[q] ≠ 124 ∧ s[q] ≠ 41 ∧ (s.data.toList.drop q).length < f + 1 ∧ partF 2 (partLoop withW notW orW G (f + 1) (s.data.toList.drop q) ts) = P ∧ (ts = [] ∨ signB s[q] = false) ∧ TreesM wr (fun k => w.heap.size + 3 ≤ k ∧ v.ownBlock ≠ some k) ts nds) := by
  rcases h with ⟨rfl, rfl, q, f, ts, rfl, hiq, hqs, hf, hP, hts, hT⟩ | ⟨n0, k, hP, hk, hn, rfl, rfl⟩
  · obtain ⟨g, rfl⟩ : ∃ g, f = g + 1 := ⟨f - 1, by omega⟩
    have hsg := rsign_ok s q (dp : Int) b' (by omega)
    by_cases hq : q < s.size
    · have hd := rq_drop s q hq
      have hz : sgZ s q = (s[q].toNat : Int) := by unfold sgZ; rw [dif_pos hq]
      rw [hz] at hsg
      have hnn : ¬ (s[q].toNat : Int) < 0 := by omega
      have e124 := u8_beq2 s[q] 124
      have e41 := u8_beq2 s[q] 41
      rw [show (((124 : UInt8).toNat : Nat) : Int) = 124 from rfl] at e124
      rw [show (((41 : UInt8).toNat : Nat) : Int) = 41 from rfl] at e41
      by_cases h124 : s[q] = 124
      · have hPo : P = .ok (gatherR 2 ts, s.data.toList.drop q) := by
          rw [← hP, hd]; unfold partLoop; simp only []; rw [if_pos (.inl h124)]; rfl
        have n41 : s[q] ≠ 41 := by rw [h124]; decide
        refine ⟨_, false, true, 0, b', hsg, .inr ⟨by rw [e41]; simpa using n41, rfl⟩, .inl ⟨rfl, rfl, rfl⟩, .inl ⟨rfl, .inr (.inl ⟨hnn, by rw [e124, h124]; rfl⟩), .inl ⟨s.data.toList.drop q, ts, rfl, rfl, ?_, List.drop_suffix _ _, by rw [rq_len]; omega, hT⟩⟩⟩
        rw [hPo]; unfold endC; simp only []
        rw [if_neg (fun h => n41 (by have := h.2; rw [hd] at this; exact Option.some.inj this))]
      · by_cases h41 : s[q] = 41
        · have hPo : P = .ok (gatherR 2 ts, s.data.toList.drop q) := by
            rw [← hP, hd]; unfold partLoop; simp only []; rw [if_pos (.inr h41)]; rfl
          have hzt : ((s[q].toNat : Int) == 41) = true := by rw [e41, h41]; rfl
          have n124 : ((s[q].toNat : Int) == 124) = false := by rw [e124]; simpa using h124
          by_cases h0 : dp = 0
          · refine ⟨_, true, true, 9, (q : Int), hsg, .inl ⟨hzt, (decide_eq_true h0).symm⟩, .inr ⟨rfl, fun W => ?_⟩, .inl ⟨rfl, .inr (.inr ⟨hnn, n124, hzt⟩), .inr ⟨(s.data.toList.drop q).length, 9, ?_, .inl rfl, by rw [rq_len]; omega, rfl, by rw [rq_len]; omega⟩⟩⟩
            · have h := sfail_any s (q : Int) (dp : Int) 0 b' (q : Int) 9 W
              rw [if_pos rfl, if_pos rfl] at h
              exact h
            · rw [hPo]; unfold endC; simp only []
              rw [if_pos ⟨h0, by rw [hd, h41]; rfl⟩]
          · refine ⟨_, false, true, 0, b', hsg, .inl ⟨hzt, (decide_eq_false h0).symm⟩, .inl ⟨rfl, rfl, rfl⟩, .inl ⟨rfl, .inr (.inr ⟨hnn, n124, hzt⟩), .inl ⟨s.data.toList.drop q, ts, rfl, rfl, ?_, List.drop_suffix _ _, by rw [rq_len]; omega, hT⟩⟩⟩
            rw [hPo]; unfold endC; simp only []
            rw [if_neg (fun h => h0 h.1)]
        · have n124 : ((s[q].toNat : Int) == 124) = false := by rw [e124]; simpa using h124
          have n41 : ((s[q].toNat : Int) == 41) = false := by rw [e41]; simpa using h41
          refine ⟨_, false, false, 0, b', hsg, .inr ⟨n41, rfl⟩, .inl ⟨rfl, rfl, rfl⟩, .inr ⟨rfl, hnn, n124, n41, rfl, rfl, rfl, rfl, q, g, ts, rfl, hiq, hq, h124, h41, hf, hP, ?_, hT⟩⟩
          rcases hts with h | h
          · exact .inl h
          · exact .inr (h _ (by rw [hd]; rfl))
    · have hz : sgZ s q = -1 := by unfold sgZ; rw [dif_neg hq]
      rw [hz] at hsg
      have hd := rq_nil s q hq
      have hPo : P = .ok (gatherR 2 ts, []) := by rw [← hP, hd]; rfl
      refine ⟨-1, false, true, 0, b', hsg, .inr ⟨by decide, rfl⟩, .inl ⟨rfl, rfl, rfl⟩, .inl ⟨rfl, .inl (by decide), .inl ⟨[], ts, rfl, rfl, ?_, List.nil_suffix, by simp; omega, hT⟩⟩⟩
      rw [hPo]; unfold endC; simp only []
      rw [if_neg (fun h => by cases h.2)]
  · have he0 : (k : Int) ≠ 0 := by rcases hk with rfl | rfl <;> decide
    refine ⟨-1, false, true, _, _, rsign_err s a (dp : Int) k _ he0, .inr ⟨by decide, rfl⟩, .inl ⟨rfl, rfl, rfl⟩, .inl ⟨rfl, .inl (by decide), .inr ⟨n0, k, ?_, hk, hn, rfl, rfl⟩⟩⟩
    rw [hP]; rfl
/-- Where the signs behind a thing stand: the thing so far is t. -/
def InSt (s : ByteArray) (bd : Int) (G : List UInt8 → PR RT) (P : PR RT) (B : Nat → Prop) (ts : List RT) (p k : Nat) (a er b' : Int) (nd : RNd) (wx : World) : Prop :=
  (er = 0 ∧ b' = bd ∧ ∃ (q f : Nat) (t : RT), a = (q : Int) ∧ p + 1 + k ≤ q ∧ q ≤ s.size ∧ (s.data.toList.drop q).length < f ∧ partF 2 (partLoop withW notW orW G f (s.data.toList.drop q) (ts ++ [t])) = P ∧ TreeM wx B t nd) ∨
  (∃ n0 k : Nat, P = .error (n0, k) ∧ (k = 9 ∨ k = 14) ∧ n0 ≤ s.size ∧ er = (k : Int) ∧ b' = ((s.size - n0 : Nat) : Int))
theorem in_first {s : ByteArray} {bd : Int} {G : List UInt8 → PR RT} (hG : ∀ l t r, G l = .ok (t, r) → r.length ≤ l.length) {P : PR RT} {B B' : Nat → Prop} {ts : List RT} {p f : Nat} (hp : p < s.size) (h124 : s[p] ≠ 124) (h41 : s[p] ≠ 41) (hf : (s.data.toList.drop p).length < f + 1) (hP : partF 2 (partLoop withW notW orW G (f + 1) (s.data.toList.drop p) ts) = P) (hts : ts = [] ∨ signB s[p] = false) {a er b' : Int} {nd : RNd} {w5 wx : World}
    (h : (∃ t r, atomX G (s.data.toList.drop p) = .ok (t, r) ∧ r <:+ s.data.toList ∧ a = ((s.size - r.length : Nat) : Int) ∧ er = 0 ∧ b' = bd ∧ TreeM w5 B' t nd) ∨
     (∃ n0 k : Nat, atomX G (s.data.toList.drop p) = .error (n0, k) ∧ (k = 9 ∨ k = 14) ∧ n0 ≤ s.size ∧ er = (k : Int) ∧ b' = ((s.size - n0 : Nat) : Int)))
    (hw : ∀ t, TreeM w5 B' t nd → TreeM wx B t nd) : InSt s bd G P B ts p 0 a er b' nd wx := by
  have hd := rq_drop s p hp
  have hstop : ¬ (s[p] = 124 ∨ s[p] = 41) := fun h => h.elim h124 h41
  rw [hd] at h hP hf
  unfold partLoop at hP
  simp only [] at hP
  rw [if_neg hstop] at hP
  unfold atomX at h
  simp only [] at h
  cases hsg : signB s[p] with
  | true =>
    have h0 : ts = [] := by rcases hts with h | h; exact h; rw [hsg] at h; cases h
    subst h0
    rw [hsg] at h hP
    simp only [if_true] at h hP
    rcases h with ⟨t, r, hX, _⟩ | ⟨n0, k, hX, hk, hn, he, hb⟩
    · cases hX
    · refine .inr ⟨n0, k, ?_, hk, hn, he, hb⟩
      rw [← hP, ← hX]; rfl
  | false =>
    rw [hsg] at h hP
    simp only [Bool.false_eq_true, if_false] at h hP
    rcases h with ⟨t, r, hX, hr, ha, he, hb, hT⟩ | ⟨n0, k, hX, hk, hn, he, hb⟩
    · have hl := rg_thingR_len hX hG
      rw [rq_len] at hl
      have hrl := hr.length_le
      rw [show s.data.toList.length = s.size by simp] at hrl
      have hrd := suffix_drop hr
      refine .inl ⟨he, hb, s.size - r.length, f, t, ha, by omega, by omega, ?_, ?_, hw t hT⟩
      · rw [← hrd]; simp only [List.length_cons] at hf; rw [rq_len] at hf; omega
      · rw [← hrd, ← hP, hX]
    · refine .inr ⟨n0, k, ?_, hk, hn, he, hb⟩
      rw [← hP, hX]; rfl
/-- What a round of the signs finds. -/
theorem in_round {s : ByteArray} {dp bd : Int} {G : List UInt8 → PR RT} {P : PR RT} {B : Nat → Prop} {ts : List RT} {p k : Nat} {a er b' : Int} {nd : RNd} {wx : World} (hs : s.size ≤ 300) (h : InSt s bd G P B ts p k a er b' nd wx) :
    ∃ z : Int, (∀ W, Calls Tryd.prog 35 #[rsv s a dp er b'] W fun r w' => r = .returned (.int .i64 z) ∧ Below W.heap.size W w') ∧
      (((z != 42) = true ∧ (z != 43) = true ∧ (z != 63) = true ∧
        ((er = 0 ∧ b' = bd ∧ ∃ (q f : Nat) (t : RT), a = (q : Int) ∧ p + 1 + k ≤ q ∧ q ≤ s.size ∧ (s.data.toList.drop q).length < f ∧ partF 2 (partLoop withW notW orW G f (s.data.toList.drop q) (ts ++ [t])) = P ∧ (∀ c, (s.data.toList.drop q).head? = some c → signB c = false) ∧ TreeM wx B t nd) ∨
         (∃ n0 k : Nat, P = .error (n0, k) ∧ (k = 9 ∨ k = 14) ∧ n0 ≤ s.size ∧ er = (k : Int) ∧ b' = ((s.size - n0 : Nat) : Int)))) ∨
       (∃ op : Nat, (op = 4 ∧ z = 42 ∨ op = 5 ∧ z = 43 ∨ op = 6 ∧ z = 63) ∧ er = 0 ∧ b' = bd ∧ ∃ (q f : Nat) (t : RT), a = (q : Int) ∧ p + 1 + k ≤ q ∧ q + 1 ≤ s.size ∧ (s.data.toList.drop (q + 1)).length < f ∧ partF 2 (partLoop withW notW orW G f (s.data.toList.drop (q + 1)) (ts ++ [.mk op W4.zero [t]])) = P ∧ TreeM wx B t nd)) := by
  rcases h with ⟨rfl, rfl, q, f, t, rfl, hpq, hqs, hf, hP, hT⟩ | ⟨n0, k, hP, hk, hn, rfl, rfl⟩
  · have hsg := rsign_ok s q dp b' (by omega)
    by_cases hq : q < s.size
    · have hd := rq_drop s q hq
      have hz : sgZ s q = (s[q].toNat : Int) := by unfold sgZ; rw [dif_pos hq]
      rw [hz] at hsg
      refine ⟨_, hsg, ?_⟩
      have e : ∀ c : UInt8, ((s[q].toNat : Int) != (c.toNat : Int)) = (s[q] != c) := fun c => by unfold bne; rw [u8_beq2]
      have e42 := e 42
      have e43 := e 43
      have e63 := e 63
      rw [show (((42 : UInt8).toNat : Nat) : Int) = 42 from rfl] at e42
      rw [show (((43 : UInt8).toNat : Nat) : Int) = 43 from rfl] at e43
      rw [show (((63 : UInt8).toNat : Nat) : Int) = 63 from rfl] at e63
      cases hsb : signB s[q] with
      | false =>
        have hn : s[q] ≠ 42 ∧ s[q] ≠ 43 ∧ s[q] ≠ 63 := by unfold signB at hsb; simpa [and_assoc] using hsb
        refine .inl ⟨by rw [e42]; simpa using hn.1, by rw [e43]; simpa using hn.2.1, by rw [e63]; simpa using hn.2.2, .inl ⟨rfl, rfl, q, f, t, rfl, hpq, hqs, hf, hP, fun c hc => ?_, hT⟩⟩
        rw [hd] at hc
        rw [← Option.some.inj hc]; exact hsb
      | true =>
        obtain ⟨g, rfl⟩ : ∃ g, f = g + 1 := ⟨f - 1, by omega⟩
        rw [hd] at hf hP
        have hns : ¬ (s[q] = 124 ∨ s[q] = 41) := by rintro (h | h) <;> (rw [h] at hsb; cases hsb)
        unfold partLoop at hP
        simp only [] at hP
        rw [if_neg hns, hsb] at hP
        simp only [if_true, List.getLast?_append, List.getLast?_singleton, Option.some_or, List.dropLast_concat] at hP
        simp only [List.length_cons] at hf
        refine .inr ⟨oftenR s[q], ?_, rfl, rfl, q, g, t, rfl, hpq, hq, by omega, hP, hT⟩
        have hc : s[q] = 42 ∨ s[q] = 43 ∨ s[q] = 63 := by unfold signB at hsb; simpa [or_assoc] using hsb
        unfold oftenR
        rcases hc with h | h | h
        · exact .inl ⟨by rw [h]; rfl, by rw [h]; rfl⟩
        · exact .inr (.inl ⟨by rw [h]; rfl, by rw [h]; rfl⟩)
        · exact .inr (.inr ⟨by rw [h]; rfl, by rw [h]; rfl⟩)
    · have hz : sgZ s q = -1 := by unfold sgZ; rw [dif_neg hq]
      rw [hz] at hsg
      refine ⟨-1, hsg, .inl ⟨by decide, by decide, by decide, .inl ⟨rfl, rfl, q, f, t, rfl, hpq, hqs, hf, hP, fun c hc => ?_, hT⟩⟩⟩
      rw [rq_nil s q hq] at hc; cases hc
  · have he0 : (k : Int) ≠ 0 := by rcases hk with rfl | rfl <;> decide
    exact ⟨-1, rsign_err s a dp k _ he0, .inl ⟨by decide, by decide, by decide, .inr ⟨n0, k, hP, hk, hn, rfl, rfl⟩⟩⟩
end Go.Proofs.YtjjejcgpeefclaaDoor
