/-
  Trees alike but for places, in memory: Same says so.
-/
import Derived.Test.YtmbfdkiejneheaaGreatDoorPaXJ
namespace Go.Proofs.YtmbfdkiejneheaaGreatDoor
open Go.RowKit

mutual
/-- Trees alike but for places are the same. -/
theorem same_fl : ∀ t u : PT, fl t = fl u → An.sameT (toT t) (toT u) = true
 | .mk op tx pl ks, .mk op' tx' pl' ks', h => by
  rw [fl, fl] at h
  injection h with h1 h2 _ h3
  subst h1 h2
  rw [toT, toT, An.sameT]
  show (An.eqB (bs op) (bs op) && (An.eqB (bs tx) (bs tx) && An.sameL (toTs ks) (toTs ks'))) = true
  rw [An.eqB_iff.2 rfl, An.eqB_iff.2 rfl, same_fls ks ks' h3]; rfl
theorem same_fls : ∀ ts us : List PT, fls ts = fls us → An.sameL (toTs ts) (toTs us) = true
 | [], [], _ => by rw [toTs, An.sameL]; rfl
 | [], _ :: _, h => by rw [fls, fls] at h; cases h
 | _ :: _, [], h => by rw [fls, fls] at h; cases h
 | t :: ts, u :: us, h => by
  rw [fls, fls] at h
  injection h with h1 h2
  rw [toTs, toTs, An.sameL_cons, same_fl t u h1, same_fls ts us h2]; rfl
end
/-- Same over two trees in memory. -/
theorem same_any {n m : An} {t u : PT} {b c : Nat} {w : World} (h : TreeP w (fun k => b ≤ k) t n) (k : TreeP w (fun j => c ≤ j) u m) (hf : fl t = fl u) :
  Calls Tryz.prog 13 #[An.val n, An.val m] w fun e w' => e = .returned (.bool true) ∧ Below w.heap.size w w' := by
 have := An.same_of (An.cv n) (An.cv m) (toT t) (toT u) b c w h.vt k.vt (TreeP.wd t n h)
 rw [same_fl t u hf] at this
 exact this
end Go.Proofs.YtmbfdkiejneheaaGreatDoor
