/-
  CONTRACTS of layer 9's Parse in two words, and of the law's awake.
-/
import Derived.Test.YtpcnlojlfbgaoaaRgX
import Derived.Laws.StructEq
namespace Go.Proofs.Ytpcnlojlfbgaoaa
open Go.RowKit

abbrev topS (l : List UInt8) : PR RT := topR withW notW orW l
theorem rparse_ok (s : ByteArray) (t : RT) (r : List UInt8) (h : topR withW notW orW s.data.toList = .ok (t, r)) (hs : s.size ≤ 300) (w : World) :
    Calls Try.prog 5 #[.string s] w fun e w' => ∃ nd : Nd, e = .returned (.tuple #[nd.val, .int .i64 0, .int .i64 0]) ∧ TreeN w' (fun k => w.heap.size ≤ k) t nd ∧ Below w.heap.size w w' :=
  (rparse_any s w hs).mono fun e w' ⟨hb, hp⟩ => by
    rcases hp with ⟨t', r', nd, h1, h2, h3⟩ | ⟨n, k, h1, _⟩
    · rw [h] at h1
      cases h1
      exact ⟨nd, h2, h3, hb⟩
    · rw [h] at h1; cases h1
theorem rparse_err (s : ByteArray) (n k : Nat) (h : topR withW notW orW s.data.toList = .error (n, k)) (hs : s.size ≤ 300) (w : World) :
    Calls Try.prog 5 #[.string s] w fun e w' => e = .returned (.tuple #[Nd.zero.val, .int .i64 ((s.size - n : Nat) : Int), .int .i64 (k : Int)]) ∧ Below w.heap.size w w' :=
  (rparse_any s w hs).mono fun e w' ⟨hb, hp⟩ => by
    rcases hp with ⟨t', r', nd, h1, _⟩ | ⟨n', k', h1, _, _, h2⟩
    · rw [h] at h1; cases h1
    · rw [h] at h1
      cases h1
      exact ⟨h2, hb⟩
theorem run_eq_set (a b c d : Int) (w : World) : (Op.equalIn 10000 25 (.agg #[.int .u64 a, .int .u64 b, .int .u64 c, .int .u64 d]) (.agg #[.int .u64 a, .int .u64 b, .int .u64 c, .int .u64 d])).run Try.prog w = .ok true w := by
  have hu : Try.prog.underlying 25 = some (.array 4 23) := by kernel_rfl
  have h0 : (Try.prog.info? 23).map (fun i => i.size) = some 1 := by kernel_rfl
  obtain ⟨i, hi, hs⟩ : ∃ i, Try.prog.info? 23 = some i ∧ i.size = 1 := by
    cases h : Try.prog.info? 23 with
    | none => rw [h] at h0; cases h0
    | some i => rw [h] at h0; exact ⟨i, rfl, by simpa using h0⟩
  have hu2 : Try.prog.underlying 23 = some (.int .u64) := by kernel_rfl
  show (Op.equalIn (9998 + 1 + 1) 25 _ _).run Try.prog w = _
  have key : ∀ x : Int, (Op.equalIn 9999 23 (.int .u64 x) (.int .u64 x)).run Try.prog w = .ok true w := fun x => by
    rw [show (9999 : Nat) = 9998 + 1 from rfl, run_equalIn_int w 9998 23 .u64 .u64 x x hu2]; simp
  unfold Op.equalIn
  simp [run_underlying hu, sizeOf, typeInfo, hi, hs, part, isAgg, run_underlying hu2, key, show List.range' 0 4 = [0, 1, 2, 3] from rfl]
/-- The first word of a kid. -/
theorem kid_op {w : World} {g c n : Nat} {nds : List Nd} (h : w.ownsRow 0 28 6 (.slice (some ⟨g, 0, none⟩) n c) n (ndRow nds)) (i : Nat) (hi : i < nds.length) (hn : nds.length = n) : w.cell? ⟨g, i * 6, none⟩ = some (.int .i64 nds[i].op) := by
  rw [h.cellAt (i * 6) (by omega)]
  exact ndRow_get nds i 0 hi (by omega)
theorem topR_a : topR withW notW orW [97, 124, 98, 42] = .ok (.mk 3 W4.zero [.mk 1 (withW W4.zero 97) [], .mk 4 W4.zero [.mk 1 (withW W4.zero 98) []]], []) := by rfl
theorem topR_b : topR withW notW orW [97, 40, 98] = .error (2, 9) := by rfl
set_option maxHeartbeats 2000000 in
theorem ragwake_any (w : World) : Calls Try.prog 7 #[] w fun e w' => e = .returned (.bool true) ∧ Below w.heap.size w w' := by
  have P1 := Lib.hid fun W => rparse_ok ⟨#[97, 124, 98, 42]⟩ _ _ topR_a (by decide) W
  have P2 := Lib.hid fun W => rparse_err ⟨#[97, 40, 98]⟩ _ _ topR_b (by decide) W
  go_enter Try.func7, Try.ntmps7
  go_wp2_with fail
  refine (P1.out _).mono ?_
  rintro e w1 ⟨nd, rfl, ht, hb1⟩
  unfold TreeN at ht
  obtain ⟨h1, h2, nds, h3, h4, h5⟩ := ht
  unfold Nd.val
  have hl := h5.len
  obtain ⟨x, y, rfl⟩ : ∃ x y, nds = [x, y] := by
    rcases nds with _ | ⟨x, _ | ⟨y, _ | ⟨z, l⟩⟩⟩
    · simp at hl
    · simp at hl
    · exact ⟨x, y, rfl⟩
    · simp at hl
  unfold TreesN at h5
  obtain ⟨x', rest, e1, h6, h7⟩ := h5
  unfold TreesN at h7
  obtain ⟨y', rest2, e2, h8, h9⟩ := h7
  have hy : y' = y := by rw [e2] at e1; simp at e1; exact e1.2.1.symm
  subst hy
  unfold TreeN at h8
  have hyop := h8.1
  obtain ⟨g, c, hv, hc⟩ := rg_own_succ (n := 1) h3
  have hg : g < w1.heap.size := (rg_own_base h3 g (by rw [hv]; rfl)).2
  rw [hv] at h3
  have hq : w1.cell? ⟨g, 6, none⟩ = some (.int .i64 4) := by
    have := kid_op h3 1 (by simp) rfl
    rw [show ([x, y'] : List Nd)[1] = y' from rfl, hyop] at this
    exact this
  obtain ⟨op, st, kp, kn, kc⟩ := nd
  simp only [Nd.kids, Value.slice.injEq] at hv
  obtain ⟨rfl, rfl, rfl⟩ := hv
  have hop : op = 3 := h1
  subst hop
  have HN1 : BlkN (w1.alloc (.cells #[.int .i64 3, .int .u64 st.a, .int .u64 st.b, .int .u64 st.c, .int .u64 st.d, .slice (some ⟨g, 0, none⟩) 2 kc] 28)) w1.heap.size ⟨3, st, some ⟨g, 0, none⟩, 2, kc⟩ := heap_alloc_new w1 _
  have hq2 : (w1.alloc (.cells #[.int .i64 3, .int .u64 st.a, .int .u64 st.b, .int .u64 st.c, .int .u64 st.d, .slice (some ⟨g, 0, none⟩) 2 kc] 28)).cell? ⟨g, 6, none⟩ = some (.int .i64 4) := (World.cell?_of_block (w := w1) (a := ⟨g, 6, none⟩) (Below.heap_alloc w1 _ g hg)).trans hq
  have hg2 : g < (w1.alloc (.cells #[.int .i64 3, .int .u64 st.a, .int .u64 st.b, .int .u64 st.c, .int .u64 st.d, .slice (some ⟨g, 0, none⟩) 2 kc] 28)).heap.size := by simp; omega
  have HBA := Lib.hid (hb1.alloc hb1.size (.cells #[.int .i64 3, .int .u64 st.a, .int .u64 st.b, .int .u64 st.c, .int .u64 st.d, .slice (some ⟨g, 0, none⟩) 2 kc] 28))
  have HN1 := Lib.hid HN1
  have HQ := Lib.hid (And.intro hq2 hg2)
  clear h1 h2 h3 h4 h6 h8 h9 e1 e2 hl hyop hb1 hc P1 hq hq2 hg2
  go_wp2_with fail
  generalize w1.alloc (.cells #[.int .i64 3, .int .u64 st.a, .int .u64 st.b, .int .u64 st.c, .int .u64 st.d, .slice (some ⟨g, 0, none⟩) 2 kc] 28) = wa at *
  generalize w1.heap.size = g1 at *
  refine (P2.out _).mono ?_
  rintro e w2 ⟨rfl, hb2⟩
  unfold Nd.val
  have hg3 : g < w2.heap.size := Nat.lt_of_lt_of_le HQ.out.2 hb2.size
  have q1 : w2.cell? ⟨g, 6, none⟩ = some (.int .i64 4) := (hb2.cell (p := ⟨g, 6, none⟩) HQ.out.2).trans HQ.out.1
  obtain ⟨d0, d1, d2, d3, d4, d5, _, _, _, _, _, _⟩ := (HN1.out.below hb2).cells
  have hg4 := (HN1.out.below hb2).lt
  have HB2 := Lib.hid (HBA.out.trans (hb2.mono HBA.out.size))
  clear hb2 HN1 HBA HQ P2
  go_wp2_with fail
  go_ret
  exact ⟨rfl, HB2.out.alloc HB2.out.size _⟩
end Go.Proofs.Ytpcnlojlfbgaoaa
