/-
  CONTRACT of the document's own reader of parts (scriberef09.cat), the reader of things as a hypothesis.
-/
import Derived.Test.YtpcnlojlfbgaoaaRq7
import Derived.Test.YtpcnlojlfbgaoaaRgP
namespace Go.Proofs.Ytpcnlojlfbgaoaa
open Go.RowKit

theorem cat_results (w : World) (b t : Nat) (arr : Array Value) (s : ByteArray) (a dp er bd : Int) (nd : RNd) (h : Ss w b s a dp er bd) (h' : Sn w t nd) (h2 : arr[2]?.getD undef = (.pointer (some ⟨b, 0, none⟩))) (h3 : arr[3]?.getD undef = (.pointer (some ⟨t, 0, none⟩))) :
    (results Try.f19 arr).run Try.prog w = .ok (.tuple #[rsv s a dp er bd, nd.val]) w := by
  obtain ⟨c0, c1, c2, c3, c4, -⟩ := h
  obtain ⟨d0, d1, d2, -⟩ := h'
  simp [results, Try.results19, go_sem, rsv, RNd.val, c0, c1, c2, c3, c4, d0, d1, d2, h2, h3]
set_option maxHeartbeats 4000000 in
set_option maxRecDepth 100000 in
/-- Of a reader that has gone wrong a part is nothing. -/
theorem scat_err (s : ByteArray) (a dp er bd : Int) (he : er ≠ 0) (_hs : s.size ≤ 300) (w : World) :
    Calls Try.prog 19 #[rsv s a dp er bd] w fun e W' => e = .returned (.tuple #[rsv s a dp er bd, RNd.zero.val]) ∧ Below w.heap.size w W' := by
  have CS := Lib.hid fun W => rsign_err s a dp er bd he W
  have H0 := Lib.hid ((Rs3.start w s a dp er bd 46).keep ((Below.refl _ _).alloc (Nat.le_refl _) (.cells #[] 34)))
  unfold rsv at CS
  show Calls Try.prog 19 #[.agg #[.string s, .int .i64 a, .int .i64 dp, .int .i64 er, .int .i64 bd]] w _
  go_enter Try.func19, Try.ntmps19
  go_wp2_with fail
  generalize hW : ((((w.alloc (.cells #[.string s, .int .i64 a, .int .i64 dp, .int .i64 er, .int .i64 bd] 46)).alloc (.cells #[.string ⟨#[]⟩, .int .i64 0, .int .i64 0, .int .i64 0, .int .i64 0] 46)).alloc (.cells #[.int .i64 0, .string ⟨#[]⟩, .slice none 0 0] 34)).alloc (.cells #[] 34)) = w1 at *
  go_loopw [4, 5] (fun lv iv wr => lv = .slice (some ⟨w.heap.size + 3, 0, none⟩) 0 0 ∧ iv = .int .i64 0 ∧ wr = w1) (fun _ _ _ => 0)
  case atStart => exact ⟨rfl, rfl, rfl⟩
  case round =>
    obtain ⟨rfl, rfl, rfl⟩ := hrel
    obtain ⟨c0, c1, c2, c3, c4, f0, f1, f2, f3, f4⟩ := H0.out.rs.own
    have hsi : (0 : Int) ≤ (s.size : Int) := by omega
    go_wp2_with fail
    refine (CS.out _).mono ?_
    rintro e w2 ⟨rfl, hb2⟩
    have H2 := Lib.hid (H0.out.keep hb2)
    clear hb2 H0 c0 c1 c2 c3 c4 f0 f1 f2 f3 f4 CS
    obtain ⟨c0, c1, c2, c3, c4, f0, f1, f2, f3, f4⟩ := H2.out.rs.own
    obtain ⟨r0, r1, r2, r3, r4, g0, g1, g2, g3, g4⟩ := H2.out.rs.res
    obtain ⟨n0, n1, n2, k0, k1, k2⟩ := H2.out.nod
    unfold RNd.zero at n0 n1 n2
    have HL := Lib.hid (H2.out.last a dp er bd RNd.zero)
    go_wp2_with fail
    refine bodyPost_ret (v := .tuple #[rsv s a dp er bd, RNd.zero.val]) ?_ ?_ ?_
    · exact cat_results _ _ _ _ _ _ _ _ _ _ HL.out.1 HL.out.2.1 rfl rfl
    · rfl
    · exact ⟨rfl, HL.out.2.2⟩
end Go.Proofs.Ytpcnlojlfbgaoaa
