/-
  CONTRACT of layer 9's Print, for every tree.
-/
import Derived.Test.YtpcnlojlfbgaoaaRgJ
namespace Go.Proofs.Ytpcnlojlfbgaoaa
open Go.RowKit

theorem rprint_any : ∀ t : RT, PrOk t
  | .mk op st ks => rprint_one op st ks (fun t _ht => rprint_any t)
termination_by t => SizeOf.sizeOf t
decreasing_by
  have := List.sizeOf_lt_of_mem _ht
  simp
  omega
theorem printL_pos (t : RT) : ∃ n, (printL t).length = n + 1 := by
  obtain ⟨op, st, ks⟩ := t
  rw [printL_eq]
  exact ⟨_, rfl⟩
theorem byteCells_get (L : List UInt8) (j : Nat) (hj : j < L.length) : (Lib.byteCells L)[j]? = some (.int .u8 (L[j].toNat : Int)) := by
  unfold Lib.byteCells
  simp [hj]
set_option maxHeartbeats 4000000 in
theorem rPrint_any (t : RT) (nd : Nd) (w : World) (B : Nat → Prop) (ht : TreeN w B t nd) (hn : (printL t).length ≤ 1000000) :
    Calls Try.prog 8 #[nd.val] w fun e w' => e = .returned (.string ⟨(printL t).toArray⟩) ∧ Below w.heap.size w w' := by
  obtain ⟨ndop, ⟨sa, sb, sc, sd⟩, kp, kn, kc⟩ := nd
  have HC : Hid (∀ W, Below w.heap.size w W → Calls Try.prog 14 #[.agg #[.int .i64 ndop, .int .u64 sa, .int .u64 sb, .int .u64 sc, .int .u64 sd, .slice kp kn kc], .slice none 0 0] W (rowPost 0 (printL t).length (printL t) none W)) := Lib.hid fun W hW => by
    have := rprint_any t ⟨ndop, ⟨sa, sb, sc, sd⟩, kp, kn, kc⟩ 0 0 [] none 0 W B (ht.kept (fun g _ hl => hW.block g hl) (fun _ h _ => h)) (fun g _ => by simp [Value.ownBlock]) (by omega) (World.ownsRow_nil W 0 _ 1) (Nat.zero_le _)
    simpa [Nd.val, Value.ownBlock] using this
  obtain ⟨q, hq⟩ := printL_pos t
  have HQ := Lib.hid hq
  clear ht hn hq
  go_enter Try.func8, Try.ntmps8
  simp only [Nd.val]
  go_wp2_with (with_reducible refine (HC.out _ ?hb).mono ?_)
  case hb => exact (Below.refl _ _).alloc (Nat.le_refl _) _
  rintro e w3 ⟨p3, c3, rfl, hR3⟩
  have hb3 := hR3.grw.toBelow rfl
  have ho := hR3.own
  rw [HQ.out] at ho
  obtain ⟨g3, c4, e4, _⟩ := rg_own_succ ho
  simp only [Value.slice.injEq] at e4
  obtain ⟨rfl, _, rfl⟩ := e4
  have hcv := run_convert_bytes_back (P := Try.prog) w3 49 9 5 ⟨g3, 0, none⟩ c3 (printL t) Try.underlying49 Try.underlying5 Try.underlying9 (fun j hj => by
    rw [← byteCells_get _ j hj, ← hR3.own.cellAt j (by simpa [Lib.byteCells] using hj)]
    by_cases h0 : j = 0 <;> simp [Addr.add, h0])
  have HB3 : Hid (Below w.heap.size w w3) := Lib.hid (Below.trans ((Below.refl _ _).alloc (Nat.le_refl _) _) (hb3.mono (by simp)))
  clear hR3 hb3 ho
  go_wp2_with fail
  go_ret
  exact ⟨rfl, HB3.out⟩
end Go.Proofs.Ytpcnlojlfbgaoaa
