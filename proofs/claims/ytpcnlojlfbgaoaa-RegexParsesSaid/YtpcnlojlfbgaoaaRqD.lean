/-
  THE DOCUMENT's OWN reader of patterns' parts (scriberef09.alt): what it reads, by induction on the depth; Parse's own words.
-/
import Derived.Test.YtpcnlojlfbgaoaaRqC
namespace Go.Proofs.Ytpcnlojlfbgaoaa
open Go.RowKit

theorem salt_all (s : ByteArray) (hs : s.size ≤ 300) (bd : Int) : ∀ (D dp : Nat), D + dp = 20 → ∀ q, q ≤ s.size → ∀ W,
    Calls Try.prog 13 #[rsv s (q : Int) (dp : Int) 0 bd] W (AxPost s (dp : Int) bd D (altX dp (grpR withW notW orW D) (s.data.toList.drop q)) W) := by
  have HE : ∀ a dp er b W, er ≠ 0 → ∃ nd : RNd, Calls Try.prog 13 #[rsv s a dp er b] W fun e W' => e = .returned (.tuple #[rsv s a dp er b, nd.val]) ∧ Below W.heap.size W W' :=
    fun a dp er b W he => ⟨RNd.zero, salt_err s a dp er b he hs W⟩
  intro D
  induction D with
  | zero =>
    intro dp hd q hq W
    obtain rfl : dp = 20 := by omega
    refine salt_any s q 20 bd 0 _ hs hq (by omega) (rg_grpR_len 0) (fun q hq W => ?_) W
    refine scat_any s q 20 bd 0 _ hs hq (by omega) (by omega) (rg_grpR_len 0) (fun q hq h1 h2 W => ?_) W
    exact satom_any s q 20 bd hs hq h1 h2 (by omega) (fun d hd => by omega) HE W
  | succ D ih =>
    intro dp hd q hq W
    have e : 20 - dp = D + 1 := by omega
    refine salt_any s q dp bd (D + 1) _ hs hq (by omega) (rg_grpR_len (D + 1)) (fun q hq W => ?_) W
    refine scat_any s q dp bd (D + 1) _ hs hq (by omega) (by omega) (rg_grpR_len (D + 1)) (fun q hq h1 h2 W => ?_) W
    have h := satom_any s q dp bd hs hq h1 h2 (by omega) (fun d hd2 q' hq' W => ?_) HE W
    · rw [e] at h; exact h
    · obtain rfl : d = D := by omega
      have h := ih (dp + 1) (by omega) q' hq' W
      rw [altX_in (by omega)] at h
      exact h
/-- The whole reader. -/
theorem salt_top (s : ByteArray) (hs : s.size ≤ 300) (W : World) :
    Calls Try.prog 13 #[rsv s 0 0 0 0] W (AxPost s 0 0 20 (topR withW notW orW s.data.toList) W) := by
  have h := salt_all s hs 0 20 0 rfl 0 (Nat.zero_le _) W
  rw [altX_top, List.drop_zero] at h
  exact h
end Go.Proofs.Ytpcnlojlfbgaoaa
