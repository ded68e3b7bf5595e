/-
  CONTRACT of the document's own reader of patterns' parts (scriberef09.alt): the walks.
-/
import Derived.Test.YtjjejcgpeefclaaDoorMqA
import Derived.Test.YtjjejcgpeefclaaDoorRgQ
namespace Go.Proofs.YtjjejcgpeefclaaDoor
open Go.RowKit

theorem alt_results (w : World) (b t : Nat) (arr : Array Value) (s : ByteArray) (a dp er bd : Int) (nd : RNd) (h : Ss w b s a dp er bd) (h' : Rsn w t nd) (h2 : arr[2]?.getD undef = (.pointer (some ⟨b, 0, none⟩))) (h3 : arr[3]?.getD undef = (.pointer (some ⟨t, 0, none⟩))) :
    (results Tryd.f22 arr).run Tryd.prog w = .ok (.tuple #[rsv s a dp er bd, nd.val]) w := by
  obtain ⟨c0, c1, c2, c3, c4, -⟩ := h
  obtain ⟨d0, d1, d2, -⟩ := h'
  simp [results, Tryd.results22, go_sem, rsv, RNd.val, c0, c1, c2, c3, c4, d0, d1, d2, h2, h3]
theorem catX_len {G : List UInt8 → PR RT} (hG : ∀ l t r, G l = .ok (t, r) → r.length ≤ l.length) {dp : Nat} {l r : List UInt8} {t : RT} (h : catX dp G l = .ok (t, r)) : r.length ≤ l.length := by
  unfold catX at h
  split at h
  · cases h
  · rename_i hp
    split at h
    · cases h
    · cases h; exact rg_partR_len hG hp
/-- What parts are, taken together. -/
def finA (X : PR (List RT)) : PR RT := match X with
  | .error x => .error x
  | .ok (ts, r) => .ok (gatherR 3 ts, r)
def AlSt (w : World) (s : ByteArray) (bd : Int) (dp : Nat) (G : List UInt8 → PR RT) (X : PR RT) (i : Nat) (a er b' : Int) (nds : List RNd) (v : Value) (wr : World) : Prop :=
  (er = 0 ∧ b' = bd ∧ ∃ (q f : Nat) (ts : List RT), a = (q : Int) ∧ i ≤ q ∧ q ≤ s.size ∧ (s.data.toList.drop q).length < f ∧ finA (altLoop dp G f (s.data.toList.drop q) ts) = X ∧ TreesM wr (fun k => w.heap.size + 3 ≤ k ∧ v.ownBlock ≠ some k) ts nds) ∨
  (∃ n0 k : Nat, X = .error (n0, k) ∧ (k = 9 ∨ k = 14) ∧ n0 ≤ s.size ∧ er = (k : Int) ∧ b' = ((s.size - n0 : Nat) : Int))
def AlEnd (w : World) (s : ByteArray) (bd : Int) (X : PR RT) (a er1 b1 : Int) (nds : List RNd) (v : Value) (wr : World) : Prop :=
  (∃ (r : List UInt8) (ts : List RT), er1 = 0 ∧ b1 = bd ∧ X = .ok (gatherR 3 ts, r) ∧ r <:+ s.data.toList ∧ a = ((s.size - r.length : Nat) : Int) ∧ TreesM wr (fun k => w.heap.size + 3 ≤ k ∧ v.ownBlock ≠ some k) ts nds) ∨
  (∃ n0 k : Nat, X = .error (n0, k) ∧ (k = 9 ∨ k = 14) ∧ n0 ≤ s.size ∧ er1 = (k : Int) ∧ b1 = ((s.size - n0 : Nat) : Int))
theorem AlEnd.kept {w : World} {s : ByteArray} {bd : Int} {X : PR RT} {a er1 b1 : Int} {nds : List RNd} {v : Value} {wr w' : World} (h : AlEnd w s bd X a er1 b1 nds v wr) (hk : ∀ g, w.heap.size + 3 ≤ g → g < wr.heap.size → w'.heap[g]? = wr.heap[g]?) : AlEnd w s bd X a er1 b1 nds v w' := by
  rcases h with ⟨r, ts, h1, h2, h3, h4, h5, hT⟩ | h
  · exact .inl ⟨r, ts, h1, h2, h3, h4, h5, TreesM.kept (fun g hg hl => hk g hg.1 hl) (fun g hg _ => hg) ts nds hT⟩
  · exact .inr h
theorem al_last {w wr w' : World} {s : ByteArray} {dp bd : Int} {D : Nat} {X : PR RT} {a er1 b1 : Int} {nds : List RNd} {g m c : Nat} (hm : m = nds.length) (h : AlEnd w s bd X a er1 b1 nds (.slice (some ⟨g, 0, none⟩) m c) wr) (hrow : wr.ownsRow (w.heap.size + 3) 30 3 (.slice (some ⟨g, 0, none⟩) m c) m (rdRow nds)) (ha : 0 ≤ a) (ha2 : a ≤ (s.size : Int) + 4 + D)
    (hk : ∀ g, w.heap.size + 3 ≤ g → w'.heap[g]? = wr.heap[g]?) (hb : Below w.heap.size w w') :
    AxPost s dp bd D X w (.returned (.tuple #[rsv s a dp er1 b1, (gatherM 3 (some ⟨g, 0, none⟩) m c nds).val])) w' := by
  subst hm
  rcases h with ⟨r, ts, rfl, rfl, hX, hr, hae, hT⟩ | ⟨n0, k, hX, hk2, hn, rfl, rfl⟩
  · refine AxPost.mk hX hr hae ?_ hb
    have hrow' : w'.ownsRow 0 30 3 (.slice (some ⟨g, 0, none⟩) nds.length c) nds.length (rdRow nds) := rg_own_less (rg_own_kept hrow (fun k hg => hk k (rg_own_base hrow k hg).1)) (Nat.zero_le _)
    refine gatherM_tree (by decide) hrow' (fun k hg => ?_) (TreesM.kept (fun k hg _ => hk k hg.1) (fun k hg _ => ?_) ts nds hT)
    · have := (rg_own_base hrow k hg).1; omega
    · have := hg.1; omega
  · exact AxPost.no hX hk2 hn ha ha2 rfl hb
/-- What a round finds. -/
theorem al_round {w : World} {s : ByteArray} {dp : Nat} {bd : Int} {G : List UInt8 → PR RT} {X : PR RT} {i : Nat} {a er b' : Int} {nds : List RNd} {v : Value} {wr : World} (hs : s.size ≤ 300) (h : AlSt w s bd dp G X i a er b' nds v wr) :
    ∃ z : Int, (∀ W, Calls Tryd.prog 35 #[rsv s a (dp : Int) er b'] W fun r w' => r = .returned (.int .i64 z) ∧ Below W.heap.size W w') ∧
      ((z == 124) = false ∧ AlEnd w s bd X a er b' nds v wr ∨
       z = 124 ∧ er = 0 ∧ b' = bd ∧ ∃ (q f : Nat) (ts : List RT), a = (q : Int) ∧ i ≤ q ∧ q < s.size ∧ (s.data.toList.drop (q + 1)).length < f ∧ (match catX dp G (s.data.toList.drop (q + 1)) with | .error x => .error x | .ok (t, r2) => finA (altLoop dp G f r2 (ts ++ [t]))) = X ∧ TreesM wr (fun k => w.heap.size + 3 ≤ k ∧ v.ownBlock ≠ some k) ts nds) := by
  rcases h with ⟨rfl, rfl, q, f, ts, rfl, hiq, hqs, hf, hX, hT⟩ | ⟨n0, k, hX, hk, hn, rfl, rfl⟩
  · obtain ⟨g, rfl⟩ : ∃ g, f = g + 1 := ⟨f - 1, by omega⟩
    have hsg := rsign_ok s q (dp : Int) b' (by omega)
    by_cases hq : q < s.size
    · have hd := rq_drop s q hq
      have hz : sgZ s q = (s[q].toNat : Int) := by unfold sgZ; rw [dif_pos hq]
      rw [hz] at hsg
      have e124 := u8_beq2 s[q] 124
      rw [show (((124 : UInt8).toNat : Nat) : Int) = 124 from rfl] at e124
      by_cases h124 : s[q] = 124
      · refine ⟨124, by rw [h124] at hsg; exact hsg, .inr ⟨rfl, rfl, rfl, q, g, ts, rfl, hiq, hq, by rw [rq_len] at hf ⊢; omega, ?_, hT⟩⟩
        rw [← hX, hd]
        conv => rhs; unfold altLoop
        simp only []
        rw [if_pos h124]
        cases catX dp G (s.data.toList.drop (q + 1)) with
        | error x => rfl
        | ok x => rfl
      · refine ⟨_, hsg, .inl ⟨by rw [e124]; simpa using h124, .inl ⟨s.data.toList.drop q, ts, rfl, rfl, ?_, List.drop_suffix _ _, by rw [rq_len]; omega, hT⟩⟩⟩
        rw [← hX, hd]
        unfold altLoop
        simp only []
        rw [if_neg h124]; rfl
    · have hz : sgZ s q = -1 := by unfold sgZ; rw [dif_neg hq]
      rw [hz] at hsg
      have hd := rq_nil s q hq
      refine ⟨-1, hsg, .inl ⟨by decide, .inl ⟨[], ts, rfl, rfl, ?_, List.nil_suffix, by simp; omega, hT⟩⟩⟩
      rw [← hX, hd]; rfl
  · have he0 : (k : Int) ≠ 0 := by rcases hk with rfl | rfl <;> decide
    exact ⟨-1, rsign_err s a (dp : Int) k _ he0, .inl ⟨by decide, .inr ⟨n0, k, hX, hk, hn, rfl, rfl⟩⟩⟩
/-- Behind a part: where the loop stands. -/
theorem al_next {s : ByteArray} {dp : Nat} {bd : Int} {G : List UInt8 → PR RT} (hG : ∀ l t r, G l = .ok (t, r) → r.length ≤ l.length) {X : PR RT} {B' : Nat → Prop} {p f i : Nat} {ts : List RT} (hp : p ≤ s.size) (hf : (s.data.toList.drop p).length < f) (hi : i ≤ p)
    (hX : (match catX dp G (s.data.toList.drop p) with | .error x => .error x | .ok (t, r2) => finA (altLoop dp G f r2 (ts ++ [t]))) = X) {a er b' : Int} {nd : RNd} {w5 : World}
    (h : (∃ t r, catX dp G (s.data.toList.drop p) = .ok (t, r) ∧ r <:+ s.data.toList ∧ a = ((s.size - r.length : Nat) : Int) ∧ er = 0 ∧ b' = bd ∧ TreeM w5 B' t nd) ∨
     (∃ n0 k : Nat, catX dp G (s.data.toList.drop p) = .error (n0, k) ∧ (k = 9 ∨ k = 14) ∧ n0 ≤ s.size ∧ er = (k : Int) ∧ b' = ((s.size - n0 : Nat) : Int))) :
    (er = 0 ∧ b' = bd ∧ ∃ (q : Nat) (t : RT), a = (q : Int) ∧ i ≤ q ∧ q ≤ s.size ∧ (s.data.toList.drop q).length < f ∧ finA (altLoop dp G f (s.data.toList.drop q) (ts ++ [t])) = X ∧ TreeM w5 B' t nd) ∨
    (∃ n0 k : Nat, X = .error (n0, k) ∧ (k = 9 ∨ k = 14) ∧ n0 ≤ s.size ∧ er = (k : Int) ∧ b' = ((s.size - n0 : Nat) : Int)) := by
  rcases h with ⟨t, r, hC, hr, ha, he, hb, hT⟩ | ⟨n0, k, hC, hk, hn, he, hb⟩
  · have hl := catX_len hG hC
    rw [rq_len] at hl
    have hrd := suffix_drop hr
    rw [hC] at hX
    refine .inl ⟨he, hb, s.size - r.length, t, ha, by omega, by omega, ?_, ?_, hT⟩
    · rw [← hrd]; rw [rq_len] at hf; omega
    · rw [← hrd]; exact hX
  · refine .inr ⟨n0, k, ?_, hk, hn, he, hb⟩
    rw [← hX, hC]
end Go.Proofs.YtjjejcgpeefclaaDoor

namespace Go.Proofs.YtjjejcgpeefclaaDoor
open Go.RowKit

theorem al_begin {w w2 : World} {s : ByteArray} {a0 dp0 er0 bd0 : Int} (h : Rs3 w s a0 dp0 er0 bd0 w2) (a dp er b' : Int) (nd : RNd) {W : World}
    (hW : ((putS w2 w.heap.size s a dp er b').alloc (.cells #[.int .i64 nd.op, .string nd.set, .slice nd.kp nd.kn nd.kc] 30)).alloc (.cells #[.int .i64 nd.op, .string nd.set, .slice nd.kp nd.kn nd.kc] 30) = W) :
    Rs3 w s a dp er b' W ∧ W.ownsRow (w.heap.size + 3) 30 3 (.slice (some ⟨w2.heap.size + 1, 0, none⟩) 1 1) 1 (rdRow [nd]) ∧
      (∀ k, w.heap.size + 3 ≤ k → k < w2.heap.size → W.heap[k]? = w2.heap[k]?) ∧ W.heap.size = w2.heap.size + 2 := by
  subst hW
  have hl := h.size
  have h1 := h.put a dp er b'
  have hs1 : (putS w2 w.heap.size s a dp er b').heap.size = w2.heap.size := putS_size _ _ _ _ _ _ _
  have hb1 : ∀ k, w.heap.size + 3 ≤ k → (putS w2 w.heap.size s a dp er b').heap[k]? = w2.heap[k]? := fun k hk => putS_block (by omega) _ _ _ _ _
  generalize putS w2 w.heap.size s a dp er b' = w3 at *
  have hba := (Below.refl w3.heap.size w3).alloc (Nat.le_refl _) (.cells #[.int .i64 nd.op, .string nd.set, .slice nd.kp nd.kn nd.kc] 30)
  have hbb := hba.alloc (by simp) (.cells #[.int .i64 nd.op, .string nd.set, .slice nd.kp nd.kn nd.kc] 30)
  refine ⟨h1.keep hbb, ?_, fun k hk hlt => (hbb.block k (by omega)).trans (hb1 k hk), by simp; omega⟩
  have hsz : (w3.alloc (.cells #[.int .i64 nd.op, .string nd.set, .slice nd.kp nd.kn nd.kc] 30)).heap.size = w2.heap.size + 1 := by simp; omega
  have h := World.ownsRow_lit (base := w.heap.size + 3) (e := 30) (size := 3) (w3.alloc (.cells #[.int .i64 nd.op, .string nd.set, .slice nd.kp nd.kn nd.kc] 30)) #[.int .i64 nd.op, .string nd.set, .slice nd.kp nd.kn nd.kc] 1 (by omega) (by decide) rfl
  rw [hsz] at h
  rw [rdRow_one]
  exact h
set_option maxHeartbeats 4000000 in
set_option maxRecDepth 100000 in
/-- Of a reader that has gone wrong parts are nothing. -/
theorem salt_err (s : ByteArray) (a dp er bd : Int) (he : er ≠ 0) (hs : s.size ≤ 300) (w : World) :
    Calls Tryd.prog 22 #[rsv s a dp er bd] w fun e W' => e = .returned (.tuple #[rsv s a dp er bd, RNd.zero.val]) ∧ Below w.heap.size w W' := by
  obtain ⟨i0, hi, hz0, hz1, hz2⟩ := info_parts Tryd.infoRN
  have CS := Lib.hid fun W => rsign_err s a dp er bd he W
  have CC := Lib.hid fun W => scat_err s a dp er bd he hs W
  have H0 := Lib.hid (Rs3.start w s a dp er bd 58)
  unfold rsv at CS CC
  show Calls Tryd.prog 22 #[.agg #[.string s, .int .i64 a, .int .i64 dp, .int .i64 er, .int .i64 bd]] w _
  go_enter Tryd.func22, Tryd.ntmps22
  go_upto_region 1 with fail
  generalize hW : (((w.alloc (.cells #[.string s, .int .i64 a, .int .i64 dp, .int .i64 er, .int .i64 bd] 58)).alloc (.cells #[.string ⟨#[]⟩, .int .i64 0, .int .i64 0, .int .i64 0, .int .i64 0] 58)).alloc (.cells #[.int .i64 0, .string ⟨#[]⟩, .slice none 0 0] 30)) = w1 at *
  clear hW
  obtain ⟨c0, c1, c2, c3, c4, f0, f1, f2, f3, f4⟩ := H0.out.rs.own
  go_wp2_with fail
  refine (CC.out _).mono ?_
  rintro e w2 ⟨rfl, hb2⟩
  have H2 := Lib.hid (H0.out.keep hb2)
  clear hb2 H0 c0 c1 c2 c3 c4 f0 f1 f2 f3 f4 CC
  obtain ⟨c0, c1, c2, c3, c4, f0, f1, f2, f3, f4⟩ := H2.out.rs.own
  have hl2 := H2.out.size
  have hl0 : w.heap.size < w2.heap.size := by omega
  unfold RNd.val RNd.zero
  go_upto_region 2 with fail
  obtain ⟨W, hW⟩ : ∃ W, ((putS w2 w.heap.size s a dp er bd).alloc (.cells #[.int .i64 0, .string ⟨#[]⟩, .slice none 0 0] 30)).alloc (.cells #[.int .i64 0, .string ⟨#[]⟩, .slice none 0 0] 30) = W := ⟨_, rfl⟩
  have hB := al_begin H2.out a dp er bd RNd.zero hW
  unfold putS at hW
  clear c0 c1 c2 c3 c4 f0 f1 f2 f3 f4
  go_upto_region 3 with fail
  have HB := Lib.hid hB
  clear hB hW
  go_wp2_with fail
  go_loopw [5, 6] (fun lv iv wr => lv = .slice (some ⟨w2.heap.size + 1, 0, none⟩) 1 1 ∧ iv = .int .i64 0 ∧ wr = W) (fun _ _ _ => 0)
  case atStart => exact ⟨rfl, rfl, rfl⟩
  case round =>
    obtain ⟨rfl, rfl, rfl⟩ := hrel
    obtain ⟨c0, c1, c2, c3, c4, f0, f1, f2, f3, f4⟩ := HB.out.1.rs.own
    have hsi : (0 : Int) ≤ (s.size : Int) := by omega
    go_wp2_with fail
    refine (CS.out _).mono ?_
    rintro e w3 ⟨rfl, hb3⟩
    have H3 := Lib.hid (HB.out.1.keep hb3)
    have HR3 := Lib.hid (rg_own_kept HB.out.2.1 (fun k hk => hb3.block k (rg_own_base HB.out.2.1 k hk).2))
    clear hb3 HB c0 c1 c2 c3 c4 f0 f1 f2 f3 f4 CS
    obtain ⟨c0, c1, c2, c3, c4, f0, f1, f2, f3, f4⟩ := H3.out.rs.own
    obtain ⟨r0, r1, r2, r3, r4, g0, g1, g2, g3, g4⟩ := H3.out.rs.res
    obtain ⟨n0, n1, n2, k0, k1, k2⟩ := H3.out.nod
    obtain ⟨x0, x1, x2⟩ := rdRow_cells (nds := [RNd.zero]) HR3.out 0 RNd.zero rfl
    rw [show 0 * 3 + 1 = 1 from rfl] at x1
    rw [show 0 * 3 + 2 = 2 from rfl] at x2
    rw [show 0 * 3 = 0 from rfl] at x0
    unfold RNd.zero at n0 n1 n2 x0 x1 x2
    have hg1 : w2.heap.size + 1 ≠ w.heap.size + 1 := by omega
    have hg2 : w2.heap.size + 1 ≠ w.heap.size + 1 + 1 := by omega
    have HL := Lib.hid (last2_drew H3.out a dp er bd RNd.zero)
    go_upto_region 11 with fail
    go_region
    all_goals
      try simp only [Act.put, List.getElem_toArray, List.getElem_cons_succ, List.getElem_cons_zero]
      go_wp2_with fail
      refine bodyPost_ret (v := .tuple #[rsv s a dp er bd, RNd.zero.val]) ?_ ?_ ?_
      · exact alt_results _ _ _ _ _ _ _ _ _ _ HL.out.1 HL.out.2.1 rfl rfl
      · rfl
      · exact ⟨rfl, HL.out.2.2⟩
/-- Behind the first part: where the loop begins. -/
theorem al_start {s : ByteArray} {dp : Nat} {bd : Int} {G : List UInt8 → PR RT} (hG : ∀ l t r, G l = .ok (t, r) → r.length ≤ l.length) {B' : Nat → Prop} {p : Nat} (_hp : p ≤ s.size) {a er b' : Int} {nd : RNd} {w5 : World}
    (h : (∃ t r, catX dp G (s.data.toList.drop p) = .ok (t, r) ∧ r <:+ s.data.toList ∧ a = ((s.size - r.length : Nat) : Int) ∧ er = 0 ∧ b' = bd ∧ TreeM w5 B' t nd) ∨
     (∃ n0 k : Nat, catX dp G (s.data.toList.drop p) = .error (n0, k) ∧ (k = 9 ∨ k = 14) ∧ n0 ≤ s.size ∧ er = (k : Int) ∧ b' = ((s.size - n0 : Nat) : Int))) :
    (er = 0 ∧ b' = bd ∧ ∃ (q f : Nat) (t : RT), a = (q : Int) ∧ 0 ≤ q ∧ q ≤ s.size ∧ (s.data.toList.drop q).length < f ∧ finA (altLoop dp G f (s.data.toList.drop q) [t]) = altX dp G (s.data.toList.drop p) ∧ TreeM w5 B' t nd) ∨
    (∃ n0 k : Nat, altX dp G (s.data.toList.drop p) = .error (n0, k) ∧ (k = 9 ∨ k = 14) ∧ n0 ≤ s.size ∧ er = (k : Int) ∧ b' = ((s.size - n0 : Nat) : Int)) := by
  rcases h with ⟨t, r, hC, hr, ha, he, hb, hT⟩ | ⟨n0, k, hC, hk, hn, he, hb⟩
  · have hl := catX_len hG hC
    rw [rq_len] at hl
    have hrd := suffix_drop hr
    refine .inl ⟨he, hb, s.size - r.length, r.length + 1, t, ha, by omega, by omega, ?_, ?_, hT⟩
    · rw [← hrd]; omega
    · rw [← hrd]
      unfold altX
      rw [hC]
      unfold finA
      cases hh : altLoop dp G (r.length + 1) r [t] with
      | error x => simp only [hh]
      | ok x => simp only [hh]
  · refine .inr ⟨n0, k, ?_, hk, hn, he, hb⟩
    unfold altX
    rw [hC]
theorem al_mid {w w5 : World} {s : ByteArray} {a0 dp0 er0 bd0 : Int} (h : Rs3 w s a0 dp0 er0 bd0 w5) (a dp er b' : Int) (nd : RNd) {W : World}
    (hW : ((putS w5 w.heap.size s a dp er b').alloc (.cells #[.string s, .int .i64 a, .int .i64 dp, .int .i64 er, .int .i64 b'] 58)).alloc (.cells #[.int .i64 nd.op, .string nd.set, .slice nd.kp nd.kn nd.kc] 30) = W) :
    Rs3 w s a dp er b' W ∧ Rsn W (w5.heap.size + 1) nd ∧ (∀ k, w.heap.size + 3 ≤ k → k < w5.heap.size → W.heap[k]? = w5.heap[k]?) ∧ W.heap.size = w5.heap.size + 2 := by
  subst hW
  have hl := h.size
  have h1 := h.put a dp er b'
  have hs1 : (putS w5 w.heap.size s a dp er b').heap.size = w5.heap.size := putS_size _ _ _ _ _ _ _
  have hb1 : ∀ k, w.heap.size + 3 ≤ k → (putS w5 w.heap.size s a dp er b').heap[k]? = w5.heap[k]? := fun k hk => putS_block (by omega) _ _ _ _ _
  generalize putS w5 w.heap.size s a dp er b' = w6 at *
  have hba := (Below.refl w6.heap.size w6).alloc (Nat.le_refl _) (.cells #[.string s, .int .i64 a, .int .i64 dp, .int .i64 er, .int .i64 b'] 58)
  have hbb := hba.alloc (by simp) (.cells #[.int .i64 nd.op, .string nd.set, .slice nd.kp nd.kn nd.kc] 30)
  have hn := Rsn.new (w6.alloc (.cells #[.string s, .int .i64 a, .int .i64 dp, .int .i64 er, .int .i64 b'] 58)) 30 nd
  rw [show (w6.alloc (.cells #[.string s, .int .i64 a, .int .i64 dp, .int .i64 er, .int .i64 b'] 58)).heap.size = w5.heap.size + 1 by simp; omega] at hn
  exact ⟨h1.keep hbb, hn, fun k hk hlt => (hbb.block k (by omega)).trans (hb1 k hk), by simp; omega⟩
set_option maxHeartbeats 8000000 in
set_option maxRecDepth 100000 in
theorem salt_any (s : ByteArray) (q dp : Nat) (bd : Int) (D : Nat) (G : List UInt8 → PR RT) (hs : s.size ≤ 300) (hq : q ≤ s.size) (_hD : D ≤ 100) (hG : ∀ l t r, G l = .ok (t, r) → r.length ≤ l.length)
    (HC : ∀ q, q ≤ s.size → ∀ W, Calls Tryd.prog 34 #[rsv s (q : Int) (dp : Int) 0 bd] W (AxPost s (dp : Int) bd D (catX dp G (s.data.toList.drop q)) W)) (w : World) :
    Calls Tryd.prog 22 #[rsv s (q : Int) (dp : Int) 0 bd] w (AxPost s (dp : Int) bd D (altX dp G (s.data.toList.drop q)) w) := by
  obtain ⟨i0, hi, hz0, hz1, hz2⟩ := info_parts Tryd.infoRN
  have H0 := Lib.hid (Rs3.start w s (q : Int) (dp : Int) 0 bd 58)
  obtain ⟨X, hX⟩ : ∃ X, altX dp G (s.data.toList.drop q) = X := ⟨_, rfl⟩
  rw [hX]
  have HN := Lib.hid (fun (a er b' : Int) (nd : RNd) (w5 : World) (B' : Nat → Prop) h => al_start (dp := dp) (bd := bd) (B' := B') (a := a) (er := er) (b' := b') (nd := nd) (w5 := w5) hG hq h)
  rw [hX] at HN
  have CC := Lib.hid (HC q hq)
  have HCL := Lib.hid HC
  have HGL := Lib.hid hG
  unfold AxPost rsv RNd.val at CC
  clear hX HC hG
  show Calls Tryd.prog 22 #[.agg #[.string s, .int .i64 (q : Int), .int .i64 (dp : Int), .int .i64 0, .int .i64 bd]] w _
  go_enter Tryd.func22, Tryd.ntmps22
  go_upto_region 1 with fail
  generalize hW : (((w.alloc (.cells #[.string s, .int .i64 (q : Int), .int .i64 (dp : Int), .int .i64 0, .int .i64 bd] 58)).alloc (.cells #[.string ⟨#[]⟩, .int .i64 0, .int .i64 0, .int .i64 0, .int .i64 0] 58)).alloc (.cells #[.int .i64 0, .string ⟨#[]⟩, .slice none 0 0] 30)) = w1 at *
  clear hW
  obtain ⟨c0, c1, c2, c3, c4, f0, f1, f2, f3, f4⟩ := H0.out.rs.own
  go_wp2_with fail
  refine (CC.out _).mono ?_
  rintro e w2 ⟨⟨a, er, b', nd, rfl, ha0, ha1, hab⟩, hb2⟩
  have H2 := Lib.hid (H0.out.keep hb2)
  have HAB := Lib.hid hab
  have hl1 := H0.out.size
  have hl2 := H2.out.size
  have hl0 : w.heap.size < w2.heap.size := by omega
  have hl12 : w1.heap.size ≤ w2.heap.size := hb2.size
  clear hb2 H0 c0 c1 c2 c3 c4 f0 f1 f2 f3 f4 CC hab
  obtain ⟨c0, c1, c2, c3, c4, f0, f1, f2, f3, f4⟩ := H2.out.rs.own
  go_upto_region 2 with fail
  obtain ⟨W, hW⟩ : ∃ W, ((putS w2 w.heap.size s a (dp : Int) er b').alloc (.cells #[.int .i64 nd.op, .string nd.set, .slice nd.kp nd.kn nd.kc] 30)).alloc (.cells #[.int .i64 nd.op, .string nd.set, .slice nd.kp nd.kn nd.kc] 30) = W := ⟨_, rfl⟩
  have hB := al_begin H2.out a (dp : Int) er b' nd hW
  unfold putS at hW
  clear c0 c1 c2 c3 c4 f0 f1 f2 f3 f4
  go_upto_region 3 with fail
  have HS0 : Hid (AlSt w s bd dp G X 0 a er b' [nd] (.slice (some ⟨w2.heap.size + 1, 0, none⟩) 1 1) W) := Lib.hid (by
    rcases HN.out a er b' nd w2 (fun k => w1.heap.size ≤ k) HAB.out with ⟨h1, h2, q', f', t, h3, h4, h5, h6, h7, hT⟩ | h
    · refine .inl ⟨h1, h2, q', f', [t], h3, h4, h5, h6, h7, ?_⟩
      show TreesM _ _ [t] [nd]
      unfold TreesM
      refine ⟨nd, [], rfl, TreeM.kept (fun k hk hl => hB.2.2.1 k (by omega) hl) (fun k hk hl => ⟨by omega, fun e => ?_⟩) t nd hT, by unfold TreesM; rfl⟩
      have e2 : w2.heap.size + 1 = k := Option.some.inj e
      omega
    · exact .inr h)
  have HB := Lib.hid hB
  clear hB hW HN HAB H2 hl1 hl12
  go_wp2_with fail
  go_loopw [5, 6] (fun lv iv wr => ∃ (i m g c : Nat) (a er b' : Int) (nds : List RNd), i ≤ s.size ∧ m ≤ i + 1 ∧ 1 ≤ m ∧ 0 ≤ a ∧ a ≤ (s.size : Int) + 4 + D ∧ lv = .slice (some ⟨g, 0, none⟩) m c ∧ iv = .int .i64 (i : Int) ∧ Hid (m = nds.length) ∧ Hid (AlSt w s bd dp G X i a er b' nds (.slice (some ⟨g, 0, none⟩) m c) wr) ∧ Hid (Rs3 w s a (dp : Int) er b' wr) ∧ Hid (wr.ownsRow (w.heap.size + 3) 30 3 (.slice (some ⟨g, 0, none⟩) m c) m (rdRow nds))) (fun _ iv _ => s.size + 1 - (intOf iv).toNat)
  case atStart => exact ⟨0, 1, w2.heap.size + 1, 1, a, er, b', [nd], Nat.zero_le _, Nat.le_refl _, Nat.le_refl _, ha0, ha1, rfl, rfl, Lib.hid rfl, HS0, Lib.hid HB.out.1, Lib.hid HB.out.2.1⟩
  case round =>
    clear HS0 HB ha0 ha1
    obtain ⟨i, m, g, c, a, er, b', nds, hi', hm, hm1, ha0, ha1, rfl, rfl, HM, HST, HR, HRow⟩ := hrel
    have hile : (i : Int) ≤ (s.size : Int) := by omega
    obtain ⟨z, hCs, hz⟩ := al_round hs HST.out
    have HCS := Lib.hid hCs
    unfold rsv at HCS
    clear hCs HST
    obtain ⟨c0, c1, c2, c3, c4, f0, f1, f2, f3, f4⟩ := HR.out.rs.own
    rcases hz with ⟨hz1', hend⟩ | ⟨rfl, rfl, hbe, q, f, ts, rfl, hiq, hqs, hf, hP, hT⟩
    · have HEND := Lib.hid hend
      clear hend
      go_wp2_with fail
      refine (HCS.out _).mono ?_
      rintro e w3 ⟨rfl, hb3⟩
      have H4 := Lib.hid (HR.out.keep hb3)
      have HRow4 := Lib.hid (rg_own_kept HRow.out (fun g hg => hb3.block g (rg_own_base HRow.out g hg).2))
      have HEND4 := Lib.hid (HEND.out.kept (w' := w3) (fun g _ hl => hb3.block g hl))
      clear hb3 HR HRow c0 c1 c2 c3 c4 f0 f1 f2 f3 f4 HCS HEND
      obtain ⟨c0, c1, c2, c3, c4, f0, f1, f2, f3, f4⟩ := H4.out.rs.own
      obtain ⟨r0, r1, r2, r3, r4, g0, g1, g2, g3, g4⟩ := H4.out.rs.res
      obtain ⟨n0, n1, n2, k0, k1, k2⟩ := H4.out.nod
      unfold RNd.zero at n0 n1 n2
      have HMR := Lib.hid (And.intro HM.out HRow4.out)
      clear HM HRow4
      rcases nds with _ | ⟨x, _ | ⟨y, nds⟩⟩
      · obtain rfl : m = 0 := HMR.out.1
        omega
      · obtain rfl : m = 1 := HMR.out.1
        obtain ⟨x0, x1, x2⟩ := rdRow_cells (nds := [x]) HMR.out.2 0 x rfl
        rw [show 0 * 3 + 1 = 1 from rfl] at x1
        rw [show 0 * 3 + 2 = 2 from rfl] at x2
        rw [show 0 * 3 = 0 from rfl] at x0
        have hgb := (rg_own_base HMR.out.2 g rfl).1
        have hg1 : g ≠ w.heap.size + 1 := by omega
        have hg2 : g ≠ w.heap.size + 1 + 1 := by omega
        have HL := Lib.hid (last2_drew H4.out a (dp : Int) er b' x)
        go_upto_region 11 with fail
        go_region
        all_goals
          try simp only [Act.put, List.getElem_toArray, List.getElem_cons_succ, List.getElem_cons_zero]
          go_wp2_with fail
          refine bodyPost_ret (v := .tuple #[rsv s a (dp : Int) er b', x.val]) ?_ ?_ ?_
          · exact alt_results _ _ _ _ _ _ _ _ _ _ HL.out.1 HL.out.2.1 rfl rfl
          · rfl
          · exact al_last (nds := [x]) (w' := (put2 w _ s a (dp : Int) er b' x).drew) HMR.out.1 HEND4.out HMR.out.2 ha0 ha1 (fun g hg => (drew_heap _ g).trans (put2_block _ _ _ _ _ _ _ _ hg)) HL.out.2.2
      · obtain ⟨mm, rfl⟩ : ∃ mm, m = mm + 2 := ⟨nds.length, by have := HMR.out.1; simpa using this⟩
        have hm1 : (((mm + 2 : Nat) : Int) == 1) = false := by rw [beq_eq_false_iff_ne]; omega
        have HL := Lib.hid (H4.out.last a (dp : Int) er b' ⟨3, ⟨#[]⟩, some ⟨g, 0, none⟩, mm + 2, c⟩)
        go_wp2_with fail
        refine bodyPost_ret (v := .tuple #[rsv s a (dp : Int) er b', (⟨3, ⟨#[]⟩, some ⟨g, 0, none⟩, mm + 2, c⟩ : RNd).val]) ?_ ?_ ?_
        · exact alt_results _ _ _ _ _ _ _ _ _ _ HL.out.1 HL.out.2.1 rfl rfl
        · rfl
        · exact al_last (w' := put2 w _ s a (dp : Int) er b' ⟨3, ⟨#[]⟩, some ⟨g, 0, none⟩, mm + 2, c⟩) HMR.out.1 HEND4.out HMR.out.2 ha0 ha1 (fun g hg => put2_block _ _ _ _ _ _ _ _ hg) HL.out.2.2
    · have hbe := hbe.symm
      subst hbe
      have hqi : i + 1 ≤ q + 1 := by omega
      have HN2 := Lib.hid (fun (a er b' : Int) (nd : RNd) (w5 : World) (B' : Nat → Prop) h => al_next (dp := dp) (bd := bd) (G := G) (X := X) (B' := B') (p := q + 1) (f := f) (i := i + 1) (ts := ts) (a := a) (er := er) (b' := b') (nd := nd) (w5 := w5) HGL.out (by omega) hf hqi hP h)
      have CC := Lib.hid (HCL.out (q + 1) (by omega))
      unfold AxPost rsv RNd.val at CC
      rw [show ((q + 1 : Nat) : Int) = (q : Int) + 1 from rfl] at CC
      have HTS := Lib.hid hT
      have hq300 : (q : Int) + 1 ≤ 300 := by omega
      clear hP hf hT hqi
      go_wp2_with fail
      refine (HCS.out _).mono ?_
      rintro e w3 ⟨rfl, hb3⟩
      have H3 := Lib.hid (HR.out.keep hb3)
      have HRow3 := Lib.hid (rg_own_kept HRow.out (fun g hg => hb3.block g (rg_own_base HRow.out g hg).2))
      have HTS3 := Lib.hid (HTS.out.below hb3)
      clear hb3 HR HRow c0 c1 c2 c3 c4 f0 f1 f2 f3 f4 HCS HTS
      obtain ⟨c0, c1, c2, c3, c4, f0, f1, f2, f3, f4⟩ := H3.out.rs.own
      have H4 := Lib.hid (H3.out.set1 ((q : Int) + 1))
      have hl3 := H3.out.size
      have HRow4 : Hid ((w3.setCell ⟨w.heap.size, 1, none⟩ (.int .i64 ((q : Int) + 1))).ownsRow (w.heap.size + 3) 30 3 (.slice (some ⟨g, 0, none⟩) m c) m (rdRow nds)) := Lib.hid (rg_own_kept HRow3.out (fun g hg => Below.heap_setCell _ _ _ _ (by have := (rg_own_base HRow3.out g hg).1; show g ≠ w.heap.size; omega)))
      have HTS4 : Hid (TreesM (w3.setCell ⟨w.heap.size, 1, none⟩ (.int .i64 ((q : Int) + 1))) (fun k => w.heap.size + 3 ≤ k ∧ (Value.slice (some ⟨g, 0, none⟩) m c).ownBlock ≠ some k) ts nds) := Lib.hid (TreesM.kept (fun k hk _ => Below.heap_setCell _ _ _ _ (by have := hk.1; show k ≠ w.heap.size; omega)) (fun k hk _ => hk) ts nds HTS3.out)
      go_upto_region 7 with fail
      generalize w3.setCell ⟨w.heap.size, 1, none⟩ (.int .i64 ((q : Int) + 1)) = w4 at *
      clear c0 c1 c2 c3 c4 f0 f1 f2 f3 f4 H3 HRow3 HTS3 hl3
      obtain ⟨c0, c1, c2, c3, c4, f0, f1, f2, f3, f4⟩ := H4.out.rs.own
      go_wp2_with fail
      refine (CC.out _).mono ?_
      rintro e w5 ⟨⟨a, er, b', nd, rfl, hb0, hb1, hab⟩, hb5⟩
      have H5 := Lib.hid (H4.out.keep hb5)
      have HRow5 := Lib.hid (rg_own_kept HRow4.out (fun k hk => hb5.block k (rg_own_base HRow4.out k hk).2))
      have HTS5 := Lib.hid (HTS4.out.below hb5)
      have hgl : g < w4.heap.size := (rg_own_base HRow4.out g rfl).2
      have h45 : w4.heap.size ≤ w5.heap.size := hb5.size
      have hw3 := H4.out.size
      have HAB := Lib.hid (HN2.out a er b' nd w5 _ hab)
      have hlt5 := H5.out.size
      have hlt0 : w.heap.size < w5.heap.size := by omega
      clear hb5 H4 HRow4 HTS4 c0 c1 c2 c3 c4 f0 f1 f2 f3 f4 CC hab HN2
      obtain ⟨c0, c1, c2, c3, c4, f0, f1, f2, f3, f4⟩ := H5.out.rs.own
      go_upto_region 8 with fail
      obtain ⟨w8, hw8⟩ : ∃ W, ((putS w5 w.heap.size s a (dp : Int) er b').alloc (.cells #[.string s, .int .i64 a, .int .i64 (dp : Int), .int .i64 er, .int .i64 b'] 58)).alloc (.cells #[.int .i64 nd.op, .string nd.set, .slice nd.kp nd.kn nd.kc] 30) = W := ⟨_, rfl⟩
      obtain ⟨hM1, hM2, hM3, hM4⟩ := al_mid H5.out a (dp : Int) er b' nd hw8
      unfold putS at hw8
      go_upto_region 9 with fail
      clear c0 c1 c2 c3 c4 f0 f1 f2 f3 f4
      have H8 := Lib.hid hM1
      have HK8 := Lib.hid hM3
      have HSZ8 := Lib.hid hM4
      have HRow8 : Hid (w8.ownsRow (w.heap.size + 3) 30 3 (.slice (some ⟨g, 0, none⟩) m c) m (rdRow nds)) := Lib.hid (rg_own_kept HRow5.out (fun k hk => by
          have h1 := rg_own_base HRow5.out k hk
          exact hM3 k h1.1 h1.2))
      obtain ⟨n0, n1, n2, -⟩ := hM2
      clear hw8 hM1 hM3 hM4
      have hm300 : m ≤ 301 := by omega
      go_wp2_with (at_builtin; refine wpList_append_own_at _ rfl (.tmp 38) (.tmp 40) 28 rfl (w.heap.size + 3) 30 i0 (.agg #[.int .i64 0, .string ⟨#[]⟩, .slice none 0 0]) 3 48 Tryd.underlying28 hi hz0 hz1 hz2 rfl (by decide) (.slice (some ⟨g, 0, none⟩) m c) m (rdRow nds) rfl (HRow8.out.alloc _) ⟨w8.heap.size, 0, none⟩ 1 1 nd.vals (by simp [go_sem]) rfl ?c1 ?c2 ?c3 ?c4 ?c5 ?_)
      case c1 => exact rnd_new _ nd (by simp)
      case c2 => simp [RNd.vals, Value.oneCell']
      case c3 => unfold maxLen; omega
      case c4 => omega
      case c5 => have := H8.out.size; simp; omega
      intro v9 w9 hown9 hgrow9 _ hat9
      obtain ⟨g9, c9, rfl, -⟩ := rg_own_succ hown9
      have hgb := (rg_own_base HRow8.out g rfl).1
      have hne : ∀ j, j < w8.heap.size → j ≠ g → w9.heap[j]? = w8.heap[j]? := fun j hj hjg => by
        rw [← Below.heap_alloc w8 (.cells #[.int .i64 nd.op, .string nd.set, .slice nd.kp nd.kn nd.kc] 30) j hj]
        exact hgrow9.block j (by simp; omega) (fun e => hjg (show j = g from Option.some.inj e))
      have hsz58 := HSZ8.out
      have hg9 : g9 = g ∨ g9 = w8.heap.size + 1 := by
        rcases hat9 with h | h
        · exact .inl (Option.some.inj h)
        · exact .inr (Option.some.inj h)
      have H9 : Hid (Rs3 w s a (dp : Int) er b' w9) := Lib.hid (H8.out.kept (fun k hk => hne k (by have := H8.out.size; omega) (by omega)) ((H8.out.rs.below.alloc H8.out.rs.below.size _).grown hgrow9 (by simp; have := H8.out.rs.below.size; omega) (fun j hj => by have h : g = j := Option.some.inj hj; omega)))
      have HRow9 : Hid (w9.ownsRow (w.heap.size + 3) 30 3 (.slice (some ⟨g9, 0, none⟩) (m + 1) c9) (m + 1) (rdRow (nds ++ [nd]))) := Lib.hid (by rw [rdRow_append, rdRow_one]; exact hown9)
      have HM9 : Hid (m + 1 = (nds ++ [nd]).length) := Lib.hid (by rw [List.length_append, ← HM.out]; rfl)
      have HST9 : Hid (AlSt w s bd dp G X (i + 1) a er b' (nds ++ [nd]) (.slice (some ⟨g9, 0, none⟩) (m + 1) c9) w9) := Lib.hid (by
        have hob : ∀ k, k < w8.heap.size → k ≠ g → (Value.slice (some ⟨g9, 0, none⟩) (m + 1) c9).ownBlock ≠ some k := fun k hk hkg e => by
          have e2 : g9 = k := Option.some.inj e
          omega
        rcases HAB.out with ⟨h1, h2, q2, t, h3, h4, h5, h6, h7, hT⟩ | h
        · refine .inl ⟨h1, h2, q2, f, ts ++ [t], h3, h4, h5, h6, h7, TreesM.snoc ?_ ?_⟩
          · refine TreeM.kept (fun k hk hl => ?_) (fun k hk hl => ⟨by omega, hob k (by omega) (by omega)⟩) t nd hT
            rw [hne k (by omega) (by omega)]
            exact HK8.out k (by omega) hl
          · refine TreesM.kept (fun k hk hl => ?_) (fun k hk hl => ⟨hk.1, hob k (by omega) (fun e => hk.2 (by rw [e]; rfl))⟩) ts nds HTS5.out
            rw [hne k (by omega) (fun e => hk.2 (by rw [e]; rfl))]
            exact HK8.out k hk.1 hl
        · exact .inr h)
      clear hown9 hgrow9 hat9 hne HAB HK8 HRow8 H8 HSZ8 n0 n1 n2 hsz58 HTS5 HRow5 H5
      go_wp2_with fail
      go_roundw
      case rel => exact ⟨i + 1, m + 1, g9, c9, a, er, b', nds ++ [nd], by omega, by omega, by omega, hb0, hb1, rfl, by go_num, HM9, HST9, H9, HRow9⟩
      case measure => simp [intOf]; omega
end Go.Proofs.YtjjejcgpeefclaaDoor
