/-
 THE WALK of the law ParseSpaced: whatever the text, it returns true and writes to nothing that was there.
-/
import Derived.Test.YtmbfdkiejneheaaGreatDoorPaXJ
namespace Go.Proofs.YtmbfdkiejneheaaGreatDoor
open Go.RowKit

mutual
/-- Trees alike but for places are the same. -/
theorem same_fl : ∀ t u : PT, fl t = fl u → An.sameT (toT t) (toT u) = true
 | .mk op tx pl ks, .mk op' tx' pl' ks', h => by
  rw [fl, fl] at h
  injection h with h1 h2 _ h3
  subst h1 h2
  rw [toT, toT, An.sameT]
  show (An.eqB (bs op) (bs op) && (An.eqB (bs tx) (bs tx) && An.sameL (toTs ks) (toTs ks'))) = true
  rw [An.eqB_iff.2 rfl, An.eqB_iff.2 rfl, same_fls ks ks' h3]; rfl
theorem same_fls : ∀ ts us : List PT, fls ts = fls us → An.sameL (toTs ts) (toTs us) = true
 | [], [], _ => by rw [toTs, An.sameL]; rfl
 | [], _ :: _, h => by rw [fls, fls] at h; cases h
 | _ :: _, [], h => by rw [fls, fls] at h; cases h
 | t :: ts, u :: us, h => by
  rw [fls, fls] at h
  injection h with h1 h2
  rw [toTs, toTs, An.sameL_cons, same_fl t u h1, same_fls ts us h2]; rfl
end
/-- Same over two trees in memory. -/
theorem same_any {n m : An} {t u : PT} {b c : Nat} {w : World} (h : TreeP w (fun k => b ≤ k) t n) (k : TreeP w (fun j => c ≤ j) u m) (hf : fl t = fl u) :
  Calls Tryz.prog 13 #[An.val n, An.val m] w fun e w' => e = .returned (.bool true) ∧ Below w.heap.size w w' := by
 have := An.same_of (An.cv n) (An.cv m) (toT t) (toT u) b c w h.vt k.vt (TreeP.wd t n h)
 rw [same_fl t u hf] at this
 exact this
set_option maxHeartbeats 8000000 in
set_option maxRecDepth 100000 in
theorem spaced_walk (s : ByteArray) (hs : s.size ≤ maxLen) (w : World) (htab : Tabs w) :
  Calls Tryz.prog 4 #[.string s] w fun e w' => e = .returned (.bool true) ∧ Below w.heap.size w w' := by
 have C1 := kH fun W => cut_any s 300 W hs (by omega)
 have l1 := cutB_size s 300
 generalize cutB s 300 = x at *
 have AW := kH fun W (hW : Below w.heap.size w W) => awake_any W (htab.next hW)
 have HB0 := kH (Below.refl w.heap.size w)
 have CP := kH fun W => parse_any x W (by omega)
 clear hs htab
 cases hx : parseL x.data.toList with
 | error q =>
  rw [hx] at CP
  obtain ⟨p, k⟩ := q
  have ht := (parse_told hx).2
  simp only at ht
  clear hx
  rcases ht with rfl | rfl | rfl
  all_goals
   go_enter Tryz.func4, Tryz.ntmps4
   go_wp2_with fail
   refine (C1.out _).mono ?_
   rintro e w1 ⟨rfl, rfl⟩
   go_wp2_with fail
   refine (CP.out _).mono ?_
   rintro e w2 ⟨hb2, rfl⟩
   have HB2 := kH (hb2.alloc hb2.size zN)
   clear hb2
   go_wp2_with fail
   refine (AW.out _ HB2.out).mono ?_
   rintro e w3 ⟨rfl, hb3⟩
   have HB3 := kH (HB2.out.trans (hb3.mono HB2.out.size))
   clear hb3 HB2
   go_wp2_with fail
   go_ret
   exact ⟨rfl, HB3.out⟩
 | ok t =>
  rw [hx] at CP
  have hsz : ((⟨#[59, 10, 32, 59]⟩ : ByteArray) ++ x ++ ⟨#[32, 9, 35, 32, 97, 32, 110, 111, 116, 101]⟩).size ≤ 4000 := by
   rw [← ba_sz, show ((⟨#[59, 10, 32, 59]⟩ : ByteArray) ++ x ++ ⟨#[32, 9, 35, 32, 97, 32, 110, 111, 116, 101]⟩).data.toList = [59, 10, 32, 59] ++ x.data.toList ++ [32, 9, 35, 32, 97, 32, 110, 111, 116, 101] from by simp, List.length_append, List.length_append, ba_sz]
   simp only [List.length_cons, List.length_nil]; omega
  have hsx : x.size + 100 ≤ 9223372036854775807 := by omega
  have CQ := kH fun W => parse_any ((⟨#[59, 10, 32, 59]⟩ : ByteArray) ++ x ++ ⟨#[32, 9, 35, 32, 97, 32, 110, 111, 116, 101]⟩) W hsz
  obtain ⟨u, hu, hf⟩ := parse_spaced (note := [32, 97, 32, 110, 111, 116, 101]) hx (by decide)
  rw [show ((⟨#[59, 10, 32, 59]⟩ : ByteArray) ++ x ++ ⟨#[32, 9, 35, 32, 97, 32, 110, 111, 116, 101]⟩).data.toList = 59 :: 10 :: 32 :: 59 :: (x.data.toList ++ 32 :: 9 :: 35 :: [32, 97, 32, 110, 111, 116, 101]) from by simp] at CQ
  rw [show parseL (59 :: 10 :: 32 :: 59 :: (x.data.toList ++ 32 :: 9 :: 35 :: [32, 97, 32, 110, 111, 116, 101])) = .ok u from hu] at CQ
  have HF := kH hf
  clear hx hu hf hsz
  go_enter Tryz.func4, Tryz.ntmps4
  go_wp2_with fail
  refine (C1.out _).mono ?_
  rintro e w1 ⟨rfl, rfl⟩
  go_wp2_with fail
  refine (CP.out _).mono ?_
  rintro e w2 ⟨hb2, n, rfl, tr2⟩
  have HN2 := kH (BlkA.new w2 n)
  have HB2 := kH (hb2.alloc hb2.size (nB n))
  have HT2 := kH (tr2.below ((Below.refl _ _).alloc (Nat.le_refl _) (nB n)))
  clear hb2 tr2
  unfold An.val
  go_wp2_with fail
  generalize w2.alloc (nB n) = wa at *
  generalize w2.heap.size = gn at *
  refine (CQ.out _).mono ?_
  rintro e w3 ⟨hb3, m, rfl, tr3⟩
  have HN3 := kH ((HN2.out.below hb3).alloc (nB m))
  have HT3 := kH ((HT2.out.below hb3).below ((Below.refl _ _).alloc (Nat.le_refl _) (nB m)))
  have HU3 := kH (tr3.below ((Below.refl _ _).alloc (Nat.le_refl _) (nB m)))
  have HM3 := kH (BlkA.new w3 m)
  have HB3 := kH ((HB2.out.trans (hb3.mono HB2.out.size)).alloc (HB2.out.trans (hb3.mono HB2.out.size)).size (nB m))
  clear hb3 tr3 HN2 HT2 HB2
  unfold An.val
  go_wp2_with fail
  generalize w3.alloc (nB m) = wb at *
  generalize w3.heap.size = gm at *
  refine (AW.out _ HB3.out).mono ?_
  rintro e w4 ⟨rfl, hb4⟩
  have HB4 := kH (HB3.out.trans (hb4.mono HB3.out.size))
  have HN4 := kH (HN3.out.below hb4)
  have HM4 := kH (HM3.out.below hb4)
  have CS := kH (same_any (HU3.out.below hb4) (HT3.out.below hb4) HF.out)
  clear hb4 HB3 HN3 HM3 HT3 HU3
  obtain ⟨v0, v1, v2, v3, vk0, vk1, vk2, vk3⟩ := HN4.out.cells
  obtain ⟨x0, x1, x2, x3, xk0, xk1, xk2, xk3⟩ := HM4.out.cells
  unfold An.val at CS
  go_wp2_with fail
  refine CS.out.mono ?_
  rintro e w5 ⟨rfl, hb5⟩
  have HB5 := kH (HB4.out.trans (hb5.mono HB4.out.size))
  clear hb5
  go_wp2_with fail
  go_ret
  exact ⟨rfl, HB5.out⟩
end Go.Proofs.YtmbfdkiejneheaaGreatDoor
