/-
  CONTRACT of layer 10's newBuilder.
-/
import Derived.Test.YtjjejcgpeefclaaDoorMtC1
namespace Go.Proofs.YtjjejcgpeefclaaDoor
open Go.RowKit

def NbPost (w : World) (L : Nat) (e : Ending) (w' : World) : Prop :=
  ∃ d : Bd, e = .returned (.pointer (some ⟨d.b, 0, none⟩)) ∧ Bl w' d 0 (fun _ _ => False) (fun _ _ => False) ∧ d.ok ∧ d.L = L ∧ (∀ k, k = d.p ∨ d.own k → w.heap.size ≤ k) ∧ Below w.heap.size w w'
set_option maxHeartbeats 4000000 in
theorem mnb_any (L : Nat) (hL : L ≤ 2000) (w : World) (hz : Dz w) :
    Calls Tryd.prog 32 #[.int .i64 (L : Int)] w (NbPost w L) := by
  obtain ⟨m, hm⟩ : ∃ m, (L + 63) / 64 = m := ⟨_, rfl⟩
  have hm1 : m ≤ 100 := by omega
  have hm2 : L ≤ 64 * m := by omega
  have hmi : ((L : Int) + 63) / 64 = (m : Int) := by omega
  have hLm : L * m ≤ 1000000000 := by
    have := Nat.mul_le_mul hL hm1
    omega
  have CT1 : Hid (∀ W, Calls Tryd.prog 36 #[.int .i64 256, .int .i64 (m : Int)] W fun e w' => ∃ g, e = .returned (.agg #[.int .i64 (m : Int), .slice (some ⟨g, 0, none⟩) (256 * m) (256 * m)]) ∧ W.heap.size ≤ g ∧ Tb w' g 256 m (fun _ _ => False) ∧ Below W.heap.size W w') := Lib.hid fun W => mtab_any 256 m (by omega) W
  have CT2 : Hid (∀ W, Calls Tryd.prog 36 #[.int .i64 (L : Int), .int .i64 (m : Int)] W fun e w' => ∃ g, e = .returned (.agg #[.int .i64 (m : Int), .slice (some ⟨g, 0, none⟩) (L * m) (L * m)]) ∧ W.heap.size ≤ g ∧ Tb w' g L m (fun _ _ => False) ∧ Below W.heap.size W w') := Lib.hid fun W => mtab_any L m hLm W
  have HZ := Lib.hid hz
  have HM := Lib.hid hm2
  have hLi : (L : Int) ≤ 2000 := by omega
  clear hz hm hLm hm2
  go_enter Tryd.func32, Tryd.ntmps32
  go_wp2_with fail
  refine (CT1.out _).mono ?_
  rintro e w2 ⟨g1, rfl, hg1, ht1, hb1⟩
  have HT1 := Lib.hid ht1
  have HB1 := Lib.hid hb1
  have hl1 := ht1.lt
  clear ht1 hb1
  go_wp2_with fail
  refine (CT2.out _).mono ?_
  rintro e w3 ⟨g2, rfl, hg2, ht2, hb2⟩
  have HT1b := Lib.hid (HT1.out.next hb2)
  have HT2 := Lib.hid ht2
  have hz1 := HB1.out.size
  have HB2 := Lib.hid (HB1.out.trans (hb2.mono hz1))
  have hl2 := ht2.lt
  clear ht2 hb2 HT1 HB1
  go_wp2_with fail
  refine (CT2.out _).mono ?_
  rintro e w4 ⟨g3, rfl, hg3, ht3, hb3⟩
  have HT1c := Lib.hid (HT1b.out.next hb3)
  have HT2c := Lib.hid (HT2.out.next hb3)
  have HT3 := Lib.hid ht3
  have hz2 := HB2.out.size
  have HB3 := Lib.hid (HB2.out.trans (hb3.mono hz2))
  have hl3 := ht3.lt
  clear ht3 hb3 HT1b HT2 HB2 CT1 CT2
  go_wp2_with fail
  go_ret
  obtain ⟨W6, hW6⟩ : ∃ W6, (w4.alloc (.cells #[.int .i64 (m : Int), .int .i64 (m : Int), .slice (some ⟨g1, 0, none⟩) (256 * m) (256 * m), .int .i64 (m : Int), .slice (some ⟨g2, 0, none⟩) (L * m) (L * m), .int .i64 (m : Int), .slice (some ⟨g3, 0, none⟩) (L * m) (L * m), .bool false, .bool false, .bool false, .bool false, .int .i64 0, .slice none 0 0, .int .i64 0, .slice none 0 0] 88)).alloc (.cells #[.pointer (some ⟨w4.heap.size, 0, none⟩), .int .i64 0] 86) = W6 := ⟨_, rfl⟩
  have hb6 : Below w4.heap.size w4 W6 := by rw [← hW6]; exact ((Below.refl _ _).alloc (Nat.le_refl _) _).alloc (by simp) _
  have hz3 := HB3.out.size
  refine ⟨⟨w4.heap.size + 1, w4.heap.size, g1, g2, g3, m, L⟩, rfl, ?_, ?_, rfl, ?_, ?_⟩
  · rw [hW6]
    refine ⟨?_, ?_, HT1c.out.next hb6, HT2c.out.next hb6, HT3.out.next hb6, (HZ.out.next HB3.out).next hb6⟩
    · rw [← hW6]
      have := mt_heap_new (w4.alloc (.cells #[.int .i64 (m : Int), .int .i64 (m : Int), .slice (some ⟨g1, 0, none⟩) (256 * m) (256 * m), .int .i64 (m : Int), .slice (some ⟨g2, 0, none⟩) (L * m) (L * m), .int .i64 (m : Int), .slice (some ⟨g3, 0, none⟩) (L * m) (L * m), .bool false, .bool false, .bool false, .bool false, .int .i64 0, .slice none 0 0, .int .i64 0, .slice none 0 0] 88)) (.cells #[.pointer (some ⟨w4.heap.size, 0, none⟩), .int .i64 0] 86)
      rw [World.size_alloc] at this
      exact this
    · rw [← hW6]
      exact (Below.heap_alloc _ _ _ (by simp)).trans (mt_heap_new _ _)
  · constructor <;> (try show _ ≠ _) <;> (try simp only) <;> (first | omega | exact HM.out)
  · intro k hk
    rcases hk with rfl | rfl | rfl | rfl | rfl <;> ((try simp only); omega)
  · rw [hW6]; exact HB3.out.trans (hb6.mono hz3)
end Go.Proofs.YtjjejcgpeefclaaDoor
