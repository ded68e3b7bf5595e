/-
  CONTRACT of scribelaw01.Cut: the first bytes of a text, at most k of them.
-/
import Derived.Test.YtjjejcgpeefclaaDoorRows
import Derived.WalkKit
import Derived.WalkSpells
import Derived.WalkLawsBesides
namespace Go.Proofs.YtjjejcgpeefclaaDoor
open Go.RowKit

def cutB (s : ByteArray) (k : Nat) : ByteArray := if k < s.size then s.extract 0 k else s
theorem cutB_size (s : ByteArray) (k : Nat) : (cutB s k).size ≤ k := by
  unfold cutB; split
  · simp; omega
  · omega
set_option maxHeartbeats 400000 in
theorem cut_any (s : ByteArray) (k : Nat) (w : World) (_hs : s.size ≤ maxLen) (_hk : k ≤ 100000) :
    Calls Tryd.prog 11 #[.string s, .int .i64 k] w fun e w' => e = .returned (.string (cutB s k)) ∧ w = w' := by
  unfold maxLen at _hs
  by_cases h : k < s.size
  · have e : cutB s k = s.extract 0 k := by unfold cutB; rw [if_pos h]
    rw [e]
    go_enter Tryd.func11, Tryd.ntmps11
    go_wp2
    go_ret
    exact ⟨rfl, rfl⟩
  · have e : cutB s k = s := by unfold cutB; rw [if_neg h]
    rw [e]
    go_enter Tryd.func11, Tryd.ntmps11
    go_wp2
    go_ret
    exact ⟨rfl, rfl⟩
end Go.Proofs.YtjjejcgpeefclaaDoor
