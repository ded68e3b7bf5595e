/-
  CONTRACT of layer 10's Of: a text becomes a program, or is told where it is no pattern.
-/
import Derived.Test.YtjjejcgpeefclaaDoorMtC3
import Derived.Test.YtjjejcgpeefclaaDoorMtF
namespace Go.Proofs.YtjjejcgpeefclaaDoor
open Go.RowKit

/-- What Of answers. -/
def OfPost (s : ByteArray) (w : World) (e : Ending) (w' : World) : Prop :=
  Below w.heap.size w w' ∧ ((∃ t r d, topR withW notW orW s.data.toList = .ok (t, r) ∧ e = .returned (.tuple #[.pointer (some ⟨d.p, 0, none⟩), .int .i64 0, .int .i64 0]) ∧ Pg w' d t) ∨
    (∃ n k, topR withW notW orW s.data.toList = .error (n, k) ∧ (k = 9 ∨ k = 14) ∧ n ≤ s.size ∧ e = .returned (.tuple #[.pointer none, .int .i64 ((s.size - n : Nat) : Int), .int .i64 (k : Int)])))
set_option maxHeartbeats 4000000 in
set_option maxRecDepth 100000 in
theorem mof_any (s : ByteArray) (hs : s.size ≤ 300) (w : World) (hdz : Dz w) : Calls Tryd.prog 12 #[.string s] w (OfPost s w) := by
  have CP := Lib.hid (rparse_any s w hs)
  have HDZ := Lib.hid hdz
  clear hdz
  go_enter Tryd.func12, Tryd.ntmps12
  go_wp2_with fail
  refine CP.out.mono ?_
  rintro e w2 ⟨hb2, (⟨t, r, nd, ht, rfl, htr⟩ | ⟨n, k, ht, hk, hn, rfl⟩)⟩
  · obtain ⟨nop, nst, kp, kn, kc⟩ := nd
    have hz2 := hb2.size
    have hfine := top_fine ht
    have hlen : s.data.toList.length = s.size := by simp
    have HTT := Lib.hid ht
    have HB2 := Lib.hid hb2
    have HDZ2 := Lib.hid (HDZ.out.next hb2)
    obtain ⟨W3, hW3⟩ : ∃ W3, w2.alloc (.cells #[.int .i64 nop, .int .u64 nst.a, .int .u64 nst.b, .int .u64 nst.c, .int .u64 nst.d, .slice kp kn kc] 50) = W3 := ⟨_, rfl⟩
    have hb3 : Below w2.heap.size w2 W3 := by rw [← hW3]; exact (Below.refl _ _).alloc (Nat.le_refl _) _
    have HC := Lib.hid (mcomp_any t hfine.1 (by omega) (htr.kept (B' := fun g => w.heap.size ≤ g) (fun g _ hl => hb3.block g hl) (fun g hg _ => hg)) (HDZ2.out.next hb3))
    have HX3 : Hid (W3.heap[w2.heap.size]? = some (.cells #[.int .i64 nop, .int .u64 nst.a, .int .u64 nst.b, .int .u64 nst.c, .int .u64 nst.d, .slice kp kn kc] 50 (0, 0))) := Lib.hid (by rw [← hW3]; exact mt_heap_new _ _)
    have x0 : W3.cell? ⟨w2.heap.size, 0, none⟩ = some (.int .i64 nop) := rg_cell HX3.out
    have x1 : W3.cell? ⟨w2.heap.size, 1, none⟩ = some (.int .u64 nst.a) := rg_cell HX3.out
    have x2 : W3.cell? ⟨w2.heap.size, 2, none⟩ = some (.int .u64 nst.b) := rg_cell HX3.out
    have x3 : W3.cell? ⟨w2.heap.size, 3, none⟩ = some (.int .u64 nst.c) := rg_cell HX3.out
    have x4 : W3.cell? ⟨w2.heap.size, 4, none⟩ = some (.int .u64 nst.d) := rg_cell HX3.out
    have x5 : W3.cell? ⟨w2.heap.size, 5, none⟩ = some (.slice kp kn kc) := rg_cell HX3.out
    have HB3 := Lib.hid (HB2.out.trans (hb3.mono hz2))
    have HW3 := Lib.hid hW3
    clear ht hb2 hb3 hW3 htr hfine hlen HB2 HDZ2 HX3 CP
    unfold Nd.val at HC ⊢
    simp only at HC ⊢
    go_upto_region 2 with fail
    rw [HW3.out]
    clear HW3
    go_wp2_with fail
    refine HC.out.mono ?_
    rintro e w4 ⟨d, rfl, hpg, hb4⟩
    have HPG := Lib.hid hpg
    have HB4 := Lib.hid (HB3.out.trans (hb4.mono HB3.out.size))
    clear hpg hb4
    go_wp2_with fail
    refine bodyPost_ret (v := .tuple #[.pointer (some ⟨d.p, 0, none⟩), .int .i64 0, .int .i64 0]) ?_ rfl ⟨HB4.out, .inl ⟨t, r, d, HTT.out, rfl, HPG.out⟩⟩
    simp [results, Tryd.results12, go_sem]
  · have HB2 := Lib.hid hb2
    have HE := Lib.hid (And.intro ht (And.intro hk hn))
    have hkn : ((k : Int) != 0) = true := by rcases hk with rfl | rfl <;> rfl
    clear hb2 ht hk hn CP HDZ
    unfold Nd.val
    go_wp2_with fail
    refine bodyPost_ret (v := .tuple #[.pointer none, .int .i64 ((s.size - n : Nat) : Int), .int .i64 (k : Int)]) ?_ rfl ⟨HB2.out.alloc HB2.out.size _, .inr ⟨n, k, HE.out.1, HE.out.2.1, HE.out.2.2, rfl⟩⟩
    simp [results, Tryd.results12, go_sem]
end Go.Proofs.YtjjejcgpeefclaaDoor
