/-
 THE WALK of the law ParseTold: whatever the text, it returns true and writes to nothing that was there.
-/
import Derived.Test.YtmbfdkiejneheaaGreatDoorPaXJ
namespace Go.Proofs.YtmbfdkiejneheaaGreatDoor
open Go.RowKit

set_option maxHeartbeats 8000000 in
set_option maxRecDepth 100000 in
theorem told_walk (s : ByteArray) (hs : s.size ≤ maxLen) (w : World) (htab : Tabs w) :
  Calls Tryz.prog 6 #[.string s] w fun e w' => e = .returned (.bool true) ∧ Below w.heap.size w w' := by
 have C1 := kH fun W => cut_any s 300 W hs (by omega)
 have l1 := cutB_size s 300
 generalize cutB s 300 = x at *
 have AW := kH fun W (hW : Below w.heap.size w W) => awake_any W (htab.next hW)
 have HB0 := kH (Below.refl w.heap.size w)
 have CP := kH fun W => parse_any x W (by omega)
 clear hs htab
 cases hx : parseL x.data.toList with
 | error q =>
  rw [hx] at CP
  have ht := parse_told hx
  rw [ba_sz] at ht
  obtain ⟨p, k⟩ := q
  obtain ⟨hp, hk⟩ := ht
  simp only at hp hk
  have hpi : (p : Int) ≤ (x.size : Int) := by omega
  have hp0 : (0 : Int) ≤ (p : Int) := by omega
  clear hx
  rcases hk with rfl | rfl | rfl
  all_goals
   go_enter Tryz.func6, Tryz.ntmps6
   go_wp2_with fail
   refine (C1.out _).mono ?_
   rintro e w1 ⟨rfl, rfl⟩
   go_wp2_with fail
   refine (CP.out _).mono ?_
   rintro e w2 ⟨hb2, rfl⟩
   have HB2 := kH (hb2.alloc hb2.size zN)
   clear hb2
   go_wp2_with fail
   refine (AW.out _ HB2.out).mono ?_
   rintro e w3 ⟨rfl, hb3⟩
   have HB3 := kH (HB2.out.trans (hb3.mono HB2.out.size))
   clear hb3 HB2
   go_wp2_with fail
   go_ret
   exact ⟨by simp, HB3.out⟩
 | ok t =>
  rw [hx] at CP
  have hop := parse_op hx
  clear hx
  go_enter Tryz.func6, Tryz.ntmps6
  go_wp2_with fail
  refine (C1.out _).mono ?_
  rintro e w1 ⟨rfl, rfl⟩
  go_wp2_with fail
  refine (CP.out _).mono ?_
  rintro e w2 ⟨hb2, n, rfl, tr2⟩
  have ho := tr2.opx
  rw [hop] at ho
  obtain ⟨op, tx, pl, kp, kn, kc⟩ := n
  simp only at ho
  subst ho
  have HN2 := kH (BlkA.new w2 ⟨bs [112, 114, 111, 103, 114, 97, 109], tx, pl, kp, kn, kc⟩)
  have HB2 := kH (hb2.alloc hb2.size (.cells #[.string (bs [112, 114, 111, 103, 114, 97, 109]), .string tx, .int .i64 pl, .slice kp kn kc] 25))
  clear hb2 tr2
  unfold An.val
  unfold bs at *
  go_wp2_with fail
  generalize w2.alloc (.cells #[.string ⟨[112, 114, 111, 103, 114, 97, 109].toArray⟩, .string tx, .int .i64 pl, .slice kp kn kc] 25) = wa at *
  refine (AW.out _ HB2.out).mono ?_
  rintro e w3 ⟨rfl, hb3⟩
  have HN3 := kH (HN2.out.below hb3)
  have HB3 := kH (HB2.out.trans (hb3.mono HB2.out.size))
  clear hb3 HB2
  obtain ⟨v0, v1, v2, v3, vk0, vk1, vk2, vk3⟩ := HN3.out.cells
  go_wp2_with fail
  go_ret
  exact ⟨by simp, HB3.out⟩
end Go.Proofs.YtmbfdkiejneheaaGreatDoor
