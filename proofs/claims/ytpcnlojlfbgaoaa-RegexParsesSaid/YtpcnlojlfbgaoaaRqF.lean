/-
  CONTRACT of the document's own reader of patterns (scriberef09.Parse).
-/
import Derived.Test.YtpcnlojlfbgaoaaRqD
namespace Go.Proofs.Ytpcnlojlfbgaoaa
open Go.RowKit

theorem rfparse_results (w : World) (t : Nat) (arr : Array Value) (nd : RNd) (x y : Int) (h' : Sn w t nd) (h2 : arr[2]?.getD undef = (.pointer (some ⟨t, 0, none⟩))) (h3 : arr[3]?.getD undef = .int .i64 x) (h4 : arr[4]?.getD undef = .int .i64 y) :
    (results Try.f6 arr).run Try.prog w = .ok (.tuple #[nd.val, .int .i64 x, .int .i64 y]) w := by
  obtain ⟨d0, d1, d2, -⟩ := h'
  simp [results, Try.results6, go_sem, RNd.val, d0, d1, d2, h2, h3, h4]
theorem pf_last {w w2 : World} {n0 : RNd} (h : Sn w2 w.heap.size n0) (hb : Below w.heap.size w w2) (n' nd : RNd) (s : ByteArray) (a er b' : Int) {W : World}
    (hW : ((putN w2 w.heap.size n').alloc (.cells #[.string s, .int .i64 a, .int .i64 0, .int .i64 er, .int .i64 b'] 46)).alloc (.cells #[.int .i64 nd.op, .string nd.set, .slice nd.kp nd.kn nd.kc] 34) = W) :
    Sn W w.heap.size n' ∧ Below w.heap.size w W ∧ (∀ k, w.heap.size < k → k < w2.heap.size → W.heap[k]? = w2.heap[k]?) ∧ W.cell? ⟨w2.heap.size, 3, none⟩ = some (.int .i64 er) ∧ W.cell? ⟨w2.heap.size, 4, none⟩ = some (.int .i64 b') := by
  subst hW
  have h1 := h.put n'
  have hb1 := putN_below hb (Nat.le_refl _) n'
  have hs1 := putN_size w2 w.heap.size n'
  have hk : ∀ k, w.heap.size < k → (putN w2 w.heap.size n').heap[k]? = w2.heap[k]? := fun k hk => putN_block (by omega) _
  generalize putN w2 w.heap.size n' = w3 at *
  have hba := (Below.refl w3.heap.size w3).alloc (Nat.le_refl _) (.cells #[.string s, .int .i64 a, .int .i64 0, .int .i64 er, .int .i64 b'] 46)
  have hbb := hba.alloc (by simp) (.cells #[.int .i64 nd.op, .string nd.set, .slice nd.kp nd.kn nd.kc] 34)
  exact ⟨h1.keep hbb, hb1.trans (hbb.mono hb1.size), fun k h1 h2 => (hbb.block k (by omega)).trans (hk k h1), by rw [← hs1]; simp [go_sem], by rw [← hs1]; simp [go_sem]⟩
/-- What Parse hands back. -/
def PfPost (s : ByteArray) (w : World) (e : Ending) (w' : World) : Prop :=
  (∃ (nd : RNd) (p er : Int), e = .returned (.tuple #[nd.val, .int .i64 p, .int .i64 er]) ∧
    ((300 < s.size ∧ p = 0 ∧ er = 12) ∨
     (s.size ≤ 300 ∧ ∃ t r, topR withW notW orW s.data.toList = .ok (t, r) ∧ p = 0 ∧ er = 0 ∧ TreeM w' (fun k => w.heap.size ≤ k) t nd) ∨
     (s.size ≤ 300 ∧ ∃ n0 k : Nat, topR withW notW orW s.data.toList = .error (n0, k) ∧ (k = 9 ∨ k = 14) ∧ n0 ≤ s.size ∧ er = (k : Int) ∧ p = ((s.size - n0 : Nat) : Int)))) ∧ Below w.heap.size w w'
set_option maxHeartbeats 4000000 in
set_option maxRecDepth 100000 in
theorem rfparse_any (s : ByteArray) (w : World) : Calls Try.prog 6 #[.string s] w (PfPost s w) := by
  have H0 := Sn.new w 34 RNd.zero
  have HB := (Below.refl w.heap.size w).alloc (Nat.le_refl _) (.cells #[.int .i64 0, .string ⟨#[]⟩, .slice none 0 0] 34)
  unfold RNd.zero at H0
  dsimp only at H0
  by_cases hs : s.size ≤ 300
  · have hsI : (s.size : Int) ≤ 300 := by omega
    have HC := Lib.hid (fun W => salt_top s hs W)
    have HS := Lib.hid hs
    unfold AxPost rsv RNd.val at HC
    clear hs
    go_enter Try.func6, Try.ntmps6
    go_upto_region 1 with fail
    generalize w.alloc (.cells #[.int .i64 0, .string ⟨#[]⟩, .slice none 0 0] 34) = w1 at *
    have H1 := Lib.hid H0
    have HB1 := Lib.hid HB
    clear H0 HB
    go_wp2_with fail
    refine (HC.out _).mono ?_
    rintro e w2 ⟨⟨a, er, b', nd, rfl, -, -, hab⟩, hb2⟩
    have H2 := Lib.hid (H1.out.keep hb2)
    have HB2 := Lib.hid (HB1.out.trans (hb2.mono HB1.out.size))
    have h12 : w1.heap.size ≤ w2.heap.size := hb2.size
    have hl1 := H1.out.lt
    have hl0 : w.heap.size < w2.heap.size := by omega
    have HAB := Lib.hid hab
    clear hab hb2 HC H1 HB1
    obtain ⟨n0, n1, n2, k0, k1, k2⟩ := H2.out
    by_cases he : er = 0
    · subst he
      have HT : Hid (∃ t r, topR withW notW orW s.data.toList = .ok (t, r) ∧ TreeM w2 (fun k => w1.heap.size ≤ k) t nd) := Lib.hid (by
        rcases HAB.out with ⟨t, r, h1, -, -, -, -, h6⟩ | ⟨n0, k, -, hk, -, he, -⟩
        · exact ⟨t, r, h1, h6⟩
        · rcases hk with rfl | rfl <;> cases he)
      clear HAB
      obtain ⟨W, hW⟩ : ∃ W, ((putN w2 w.heap.size nd).alloc (.cells #[.string s, .int .i64 a, .int .i64 0, .int .i64 0, .int .i64 b'] 46)).alloc (.cells #[.int .i64 nd.op, .string nd.set, .slice nd.kp nd.kn nd.kc] 34) = W := ⟨_, rfl⟩
      have HL := Lib.hid (pf_last H2.out HB2.out nd nd s a 0 b' hW)
      unfold putN at hW
      go_wp2_with fail
      refine bodyPost_ret (v := .tuple #[nd.val, .int .i64 0, .int .i64 0]) ?_ rfl ?_
      · exact rfparse_results _ _ _ _ _ _ HL.out.1 rfl rfl rfl
      · obtain ⟨t, r, h1, h2⟩ := HT.out
        refine ⟨⟨nd, 0, 0, rfl, .inr (.inl ⟨HS.out, t, r, h1, rfl, rfl, ?_⟩)⟩, HL.out.2.1⟩
        exact TreeM.kept (fun k hk hl => HL.out.2.2.1 k (by omega) hl) (fun k hk _ => by omega) t nd h2
    · have HT : Hid (∃ n0 k : Nat, topR withW notW orW s.data.toList = .error (n0, k) ∧ (k = 9 ∨ k = 14) ∧ n0 ≤ s.size ∧ er = (k : Int) ∧ b' = ((s.size - n0 : Nat) : Int)) := Lib.hid (by
        rcases HAB.out with ⟨t, r, -, -, -, h, -, -⟩ | h
        · exact absurd h he
        · exact h)
      have hen : (er != 0) = true := by simpa using he
      clear HAB he
      obtain ⟨W, hW⟩ : ∃ W, ((putN w2 w.heap.size RNd.zero).alloc (.cells #[.string s, .int .i64 a, .int .i64 0, .int .i64 er, .int .i64 b'] 46)).alloc (.cells #[.int .i64 nd.op, .string nd.set, .slice nd.kp nd.kn nd.kc] 34) = W := ⟨_, rfl⟩
      have HL := Lib.hid (pf_last H2.out HB2.out RNd.zero nd s a er b' hW)
      obtain ⟨l3, l4⟩ := HL.out.2.2.2
      unfold putN RNd.zero at hW
      dsimp only at hW
      go_upto_region 5 with fail
      go_region
      all_goals
        try simp only [Act.put, List.getElem_toArray, List.getElem_cons_succ, List.getElem_cons_zero]
        go_wp2_with fail
        refine bodyPost_ret (v := .tuple #[RNd.zero.val, .int .i64 b', .int .i64 er]) ?_ rfl ?_
        · exact rfparse_results _ _ _ _ _ _ HL.out.1.drew rfl rfl rfl
        · exact ⟨⟨_, _, _, rfl, .inr (.inr ⟨HS.out, HT.out⟩)⟩, HL.out.2.1.drew⟩
  · have hsI : (300 : Int) < (s.size : Int) := by omega
    have HS := Lib.hid hs
    have H1 := Lib.hid H0
    have HB1 := Lib.hid HB
    clear hs H0 HB
    go_enter Try.func6, Try.ntmps6
    go_wp2_with fail
    refine bodyPost_ret (v := .tuple #[RNd.zero.val, .int .i64 0, .int .i64 12]) ?_ rfl ?_
    · exact rfparse_results _ _ _ _ _ _ H1.out rfl rfl rfl
    · exact ⟨⟨_, _, _, rfl, .inl ⟨by have := HS.out; omega, rfl, rfl⟩⟩, HB1.out⟩
end Go.Proofs.Ytpcnlojlfbgaoaa
