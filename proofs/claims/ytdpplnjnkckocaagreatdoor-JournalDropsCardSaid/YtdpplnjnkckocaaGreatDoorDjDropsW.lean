/-
  THE WALK of the law JournalDrops: whatever the text, the number and the numbers, it returns true and writes to nothing that was there.
-/
import Derived.Test.YtdpplnjnkckocaaGreatDoorDjDrop
import Derived.Test.YtdpplnjnkckocaaGreatDoorJAwake
namespace Go.Proofs.YtdpplnjnkckocaaGreatDoor
open Go.RowKit Go.Maps

def IntsAt (w : World) (v : Value) (ks : List Int) : Prop :=
  ∃ p c, v = .slice p ks.length c ∧ (ks.length : Int) ≤ 9223372036854775807 ∧ (∀ x ∈ ks, x ≤ 9223372036854775807) ∧ ∀ i (hi : i < ks.length), ∃ a, p = some a ∧ a.block < w.heap.size ∧ w.cell? (a.add i) = some (.int .i64 ks[i])
theorem IntsAt.keeps {w w' : World} {p : Option Addr} {c : Nat} {ks : List Int} (hk : ks.length ≤ 20) (h3 : ∀ x ∈ ks, x ≤ 9223372036854775807)
    (h4 : ∀ i (hi : i < ks.length), ∃ a, p = some a ∧ a.block < w.heap.size ∧ w.cell? (a.add i) = some (.int .i64 ks[i])) (hb : Below w.heap.size w w') :
    KeepsAt (Fb w.heap.size) w' (.slice p ks.length c) ks := by
  refine ⟨p, c, rfl, by omega, h3, ?_⟩
  intro i hi
  obtain ⟨a, h5, h6, h7⟩ := h4 i hi
  refine ⟨a, h5, fun h => absurd h (Nat.not_le_of_lt h6), ?_⟩
  rw [hb.cell (p := a.add i) (by rw [add_block]; exact h6)]
  exact h7
theorem js_crashed {d : DS} (hs : d.safe = []) (ks : List Int) : JS (crashD d ks false) d.quota none := by
  have e : crashD d ks false = { d with now := [], safe := [], dead := false, left := -1 } := by
    unfold crashD
    simp [hs, crTo]
  rw [e]
  exact ⟨rfl, by show (-1 : Int) < 0; omega, rfl, rfl⟩
theorem js_used {d : DS} {q : Int} (h : JS d q none) : usedD d = 0 := by
  have := h.now
  simp only [] at this
  simp [usedD, this]
set_option maxHeartbeats 8000000 in
set_option maxRecDepth 100000 in
theorem jdrops_walk (t : ByteArray) (n : Int) (v : Value) (ks : List Int) (ht : t.size ≤ maxLen) (hn : (Lit.int .i64 n).wf = true) (w : World) (hv : IntsAt w v ks) (G : Gl w) :
    Calls Tryz.prog 4 #[.string t, .int .i64 n, v] w fun e w' => e = .returned (.bool true) ∧ Below w.heap.size w w' := by
  obtain ⟨p, cap, rfl, hlen, hmx, hat⟩ := hv
  have C1 := Lib.hid (cut_any t 200 w ht (by omega))
  have l1 := cutB_size t 200
  have g : -9223372036854775808 ≤ n ∧ n ≤ 9223372036854775807 := bounds_i64 hn
  generalize cutB t 200 = x at *
  have HG := Lib.hid G
  have f1 := frame_size x.data.toList (by simp; omega)
  have e1 : x.data.toList.length = x.size := by simp
  have NC := Lib.hid (new_d (Fp := Fb w.heap.size) w (Fb_up (Nat.le_refl _)) 1048576 (by omega) 1000 (by omega))
  have lx : (x ++ (⟨#[120]⟩ : ByteArray)).size ≤ 201 := by
    have h1 : (⟨#[120]⟩ : ByteArray).size = 1 := rfl
    rw [ByteArray.size_append, h1]; omega
  clear ht hn G
  by_cases hk : 20 < ks.length
  · have hkd : decide ((20 : Int) < (ks.length : Int)) = true := by simpa using (by omega : (20 : Int) < (ks.length : Int))
    clear hmx hat g
    go_enter Tryz.func4, Tryz.ntmps4
    go_wp2_with fail
    refine C1.out.mono ?_
    rintro e w1 ⟨rfl, rfl⟩
    go_wp2_with fail
    refine NC.out.mono ?_
    rintro e w1 ⟨rfl, d0, o0⟩
    have P1 := Lib.hid (save_js HG.out (o0.fb (Nat.le_refl _)) (Nat.le_refl _) d0 o0.size (by omega) (js_new 1048576 (by omega)) x (by omega) 0 (some (frameL x.data.toList)) (.inl ⟨by rw [lenC_none]; omega, rfl, rfl⟩))
    have O1 := Lib.hid o0
    clear NC d0 o0
    go_wp2_with fail
    refine P1.out.mono ?_
    rintro e w2 ⟨rfl, D1, J1, d1, o1⟩
    have O2 := Lib.hid (O1.out.trans o1)
    have P7 := Lib.hid (awake_any w2 (HG.out.next (O2.out.fb (Nat.le_refl _))))
    clear P1 J1 d1 o1 O1
    go_wp2_with fail
    refine P7.out.mono ?_
    rintro e w8 ⟨rfl, hb8⟩
    have O8 := Lib.hid (O2.out.trans (Oth.of_below hb8))
    clear P7 hb8 O2
    go_wp2
    go_ret
    exact ⟨rfl, O8.out.fb (Nat.le_refl _)⟩
  · have hkd : decide ((20 : Int) < (ks.length : Int)) = false := by simpa using (by omega : ¬ (20 : Int) < (ks.length : Int))
    have hk' : ks.length ≤ 20 := by omega
    have KA := Lib.hid (fun (w' : World) (hb : Below w.heap.size w w') => IntsAt.keeps (c := cap) hk' hmx hat hb)
    clear hmx hat hk hk' hlen
    go_enter Tryz.func4, Tryz.ntmps4
    go_wp2_with fail
    refine C1.out.mono ?_
    rintro e w1 ⟨rfl, rfl⟩
    go_wp2_with fail
    refine NC.out.mono ?_
    rintro e w1 ⟨rfl, d0, o0⟩
    have P1 := Lib.hid (save_js HG.out (o0.fb (Nat.le_refl _)) (Nat.le_refl _) d0 o0.size (by omega) (js_new 1048576 (by omega)) x (by omega) 0 (some (frameL x.data.toList)) (.inl ⟨by rw [lenC_none]; omega, rfl, rfl⟩))
    have O1 := Lib.hid o0
    clear NC d0 o0
    go_wp2_with fail
    refine P1.out.mono ?_
    rintro e w2 ⟨rfl, D1, J1, d1, o1⟩
    have O2 := Lib.hid (O1.out.trans o1)
    have P2 := Lib.hid (arm_d d1 n g)
    have J2 := Lib.hid (njt_arm (njt_js J1) n)
    clear P1 J1 d1 o1 O1 g
    generalize armDS D1 n = D2 at *
    go_wp2_with fail
    refine P2.out.mono ?_
    rintro e w3 ⟨rfl, d2, o2⟩
    have O3 := Lib.hid (O2.out.trans o2)
    have P3 := Lib.hid (save_gen HG.out (O3.out.fb (Nat.le_refl _)) (Nat.le_refl _) d2 O3.out.size (by omega) J2.out (x ++ (⟨#[120]⟩ : ByteArray)) (by omega))
    clear P2 d2 o2 O2 J2
    go_wp2_with fail
    refine P3.out.mono ?_
    rintro e w4 ⟨v4, rfl, D3, J3, d3, o3⟩
    have O4 := Lib.hid (O3.out.trans o3)
    have P4 := Lib.hid (arm_d d3 (-1) (by omega))
    have J4 := Lib.hid (njt_arm J3 (-1))
    clear P3 d3 o3 O3 J3
    generalize armDS D3 (-1) = D4 at *
    go_wp2_with fail
    refine P4.out.mono ?_
    rintro e w5 ⟨rfl, d4, o4⟩
    have O5 := Lib.hid (O4.out.trans o4)
    have P5 := Lib.hid (crash_d d4 (O5.out.up (Fb_up (Nat.le_refl _))) _ ks (KA.out w5 (O5.out.fb (Nat.le_refl _))) true)
    have J5 := Lib.hid (And.intro (njt_crash J4.out ks) (lv_crash D4 ks true))
    clear P4 d4 o4 O4 J4
    generalize crashD D4 ks true = D5 at *
    go_wp2_with fail
    refine P5.out.mono ?_
    rintro e w6 ⟨rfl, d5, o5⟩
    have O6 := Lib.hid (O5.out.trans o5)
    have P6 := Lib.hid (drop_any d5 O6.out.size J5.out.1 J5.out.2)
    clear P5 d5 o5 O5 J5
    go_wp2_with fail
    refine P6.out.mono ?_
    rintro e w7 ⟨rfl, D6, L6, n6, s6, d6, o6⟩
    have O7 := Lib.hid (O6.out.trans o6)
    have P7 := Lib.hid (drop_any d6 O7.out.size (fun p hp => by rw [n6] at hp; cases hp) L6)
    clear P6 d6 o6 O6 L6 n6 s6
    go_wp2_with fail
    refine P7.out.mono ?_
    rintro e w8 ⟨rfl, D7, L7, n7, s7, d7, o7⟩
    have O8 := Lib.hid (O7.out.trans o7)
    have P8 := Lib.hid (crash_d d7 (O8.out.up (Fb_up (Nat.le_refl _))) _ ks (KA.out w8 (O8.out.fb (Nat.le_refl _))) false)
    have J8 := Lib.hid (js_crashed s7 ks)
    clear P7 d7 o7 O7 L7 n7 s7
    generalize crashD D7 ks false = D8 at *
    go_wp2_with fail
    refine P8.out.mono ?_
    rintro e w9 ⟨rfl, d8, o8⟩
    have O9 := Lib.hid (O8.out.trans o8)
    have K9 := Lib.hid (And.intro d8 trivial)
    have P9 := Lib.hid (load_none d8 J8.out)
    clear P8 d8 o8 O8
    go_wp2_with fail
    refine P9.out.mono ?_
    rintro e w10 ⟨rfl, hb10⟩
    have d10 := K9.out.1.below hb10
    have O10 := Lib.hid (O9.out.trans (Oth.of_below hb10))
    have K10 := Lib.hid (And.intro d10 trivial)
    have P10 := Lib.hid (awake_any w10 (HG.out.next (O10.out.fb (Nat.le_refl _))))
    clear P9 hb10 O9 K9 d10
    go_wp2_with fail
    refine P10.out.mono ?_
    rintro e w11 ⟨rfl, hb11⟩
    have d11 := K10.out.1.below hb11
    have O11 := Lib.hid (O10.out.trans (Oth.of_below hb11))
    have P11 := Lib.hid (used_d d11)
    rw [js_used J8.out] at P11
    clear P10 hb11 O10 K10 d11
    go_wp2_with fail
    refine P11.out.mono ?_
    rintro e w12 ⟨rfl, hb12⟩
    have O12 := Lib.hid (O11.out.trans (Oth.of_below hb12))
    clear P11 hb12 O11
    go_wp2
    go_ret
    exact ⟨rfl, O12.out.fb (Nat.le_refl _)⟩
end Go.Proofs.YtdpplnjnkckocaaGreatDoor
