/-
  THE WALK of the law JournalKeeps: whatever the texts, the numbers and the flag, it returns true and writes to nothing that was there.
-/
import Derived.Test.YtdpplnjnkckocaaGreatDoorDjKeep
import Derived.Test.YtdpplnjnkckocaaGreatDoorJAwake
namespace Go.Proofs.YtdpplnjnkckocaaGreatDoor
open Go.RowKit Go.Maps

def TextsAt (w : World) (v : Value) (ss : List ByteArray) : Prop :=
  ∃ p c, v = .slice p ss.length c ∧ (ss.length : Int) ≤ 9223372036854775807 ∧ (∀ s ∈ ss, s.size ≤ maxLen) ∧ ∀ i (hi : i < ss.length), ∃ a, p = some a ∧ a.block < w.heap.size ∧ w.cell? (a.add i) = some (.string ss[i])
def NumsAt (w : World) (v : Value) (ks : List Int) : Prop :=
  ∃ p c, v = .slice p ks.length c ∧ (ks.length : Int) ≤ 9223372036854775807 ∧ ks.length ≤ c ∧ (c : Int) ≤ 9223372036854775807 ∧ (∀ x ∈ ks, -9223372036854775808 ≤ x ∧ x ≤ 9223372036854775807) ∧
   ∀ i (hi : i < ks.length), ∃ a, p = some a ∧ a.block < w.heap.size ∧ w.cell? (a.add i) = some (.int .i64 ks[i])
theorem nums_keeps {w w' : World} {p : Option Addr} {c : Nat} {ks : List Int} (hk : ks.length ≤ 20) (h3 : ∀ x ∈ ks, -9223372036854775808 ≤ x ∧ x ≤ 9223372036854775807)
    (h4 : ∀ i (hi : i < ks.length), ∃ a, p = some a ∧ a.block < w.heap.size ∧ w.cell? (a.add i) = some (.int .i64 ks[i])) (hb : Below w.heap.size w w') :
    KeepsAt (Fb w.heap.size) w' (.slice p ks.length c) ks := by
  refine ⟨p, c, rfl, by omega, fun x hx => (h3 x hx).2, ?_⟩
  intro i hi
  obtain ⟨a, h5, h6, h7⟩ := h4 i hi
  refine ⟨a, h5, fun h => absurd h (Nat.not_le_of_lt h6), ?_⟩
  rw [hb.cell (p := a.add i) (by rw [add_block]; exact h6)]
  exact h7
theorem nums_keeps20 {w w' : World} {p : Option Addr} {c : Nat} {ks : List Int} (hk : 20 < ks.length) (h3 : ∀ x ∈ ks, -9223372036854775808 ≤ x ∧ x ≤ 9223372036854775807)
    (h4 : ∀ i (hi : i < ks.length), ∃ a, p = some a ∧ a.block < w.heap.size ∧ w.cell? (a.add i) = some (.int .i64 ks[i])) (hb : Below w.heap.size w w') :
    KeepsAt (Fb w.heap.size) w' (.slice p 20 c) (ks.take 20) := by
  have hl : (ks.take 20).length = 20 := by simp; omega
  have := nums_keeps (c := c) (w := w) (w' := w') (p := p) (ks := ks.take 20) (by omega) (fun x hx => h3 x (List.mem_of_mem_take hx)) (by
    intro i hi
    obtain ⟨a, h5, h6, h7⟩ := h4 i (by omega)
    exact ⟨a, h5, h6, by rw [h7, List.getElem_take]⟩) hb
  rw [hl] at this
  exact this
theorem lenF (t : ByteArray) (h : t.size ≤ 300) : lenC (some (frameL t.data.toList)) ≤ 400 := by
  have h1 := frame_size t.data.toList (by simp; omega)
  have h2 : t.data.toList.length = t.size := by simp
  rw [lenC_some]; omega
def LoopK (w : World) (X : ByteArray) (y : Bool) (Bd : Nat) (wr : World) : Prop := ∃ d, Kp d (if y then some (frameL X.data.toList) else none) ∧ Dsk (Fb w.heap.size) wr Bd d 1000 ∧ Oth (Fb w.heap.size) w wr
set_option maxHeartbeats 16000000 in
set_option maxRecDepth 100000 in
theorem jkeeps_walk (tv av kv : Value) (ts : List ByteArray) (us ks : List Int) (nm : Bool) (w : World) (ht : TextsAt w tv ts) (ha : NumsAt w av us) (hk : NumsAt w kv ks) (G : Gl w) :
    Calls Tryz.prog 3 #[tv, av, kv, .bool nm] w fun e w' => e = .returned (.bool true) ∧ Below w.heap.size w w' := by
  obtain ⟨tp, tc, rfl, tlen, tmx, tat⟩ := ht
  obtain ⟨ap, ac, rfl, alen, _, _, amx, aat⟩ := ha
  obtain ⟨kp, kc, rfl, klen, kcap, kcmx, kmx, kat⟩ := hk
  have HG := Lib.hid G
  have TA : Hid (∀ wr, Oth (Fb w.heap.size) w wr → ∀ i (hi : i < ts.length), ∃ a, tp = some a ∧ wr.cell? (a.add i) = some (.string ts[i])) := by
    refine Lib.hid ?_
    intro wr hO i hi
    obtain ⟨a, e, hb, hc⟩ := tat i hi
    exact ⟨a, e, ((hO.fb (Nat.le_refl _)).cell (p := a.add i) (by have : (a.add i).block = a.block := add_block a i; omega)).trans hc⟩
  have AA : Hid (∀ wr, Oth (Fb w.heap.size) w wr → ∀ i (hi : i < us.length), ∃ a, ap = some a ∧ wr.cell? (a.add i) = some (.int .i64 us[i])) := by
    refine Lib.hid ?_
    intro wr hO i hi
    obtain ⟨a, e, hb, hc⟩ := aat i hi
    exact ⟨a, e, ((hO.fb (Nat.le_refl _)).cell (p := a.add i) (by have : (a.add i).block = a.block := add_block a i; omega)).trans hc⟩
  have TM := Lib.hid tmx
  have AM := Lib.hid amx
  have NC := Lib.hid (new_d (Fp := Fb w.heap.size) w (Fb_up (Nat.le_refl _)) 1048576 (by omega) 1000 (by omega))
  clear tat tmx aat amx G
  by_cases hk20 : 20 < ks.length
  · obtain ⟨ka, rfl, _, _⟩ := kat 0 (by omega)
    have hkd : decide ((20 : Int) < (ks.length : Int)) = true := by simpa using (by omega : (20 : Int) < (ks.length : Int))
    have KA := Lib.hid (fun (w' : World) (hb : Below w.heap.size w w') => nums_keeps20 (c := kc) hk20 kmx kat hb)
    have hkc : (20 : Int) ≤ kc := by omega
    clear kmx kat
    go_enter Tryz.func3, Tryz.ntmps3
    go_wp2_with fail
    refine NC.out.mono ?_
    rintro e w1 ⟨rfl, d0, o0⟩
    have O1 := Lib.hid o0
    have D1 := Lib.hid d0
    have P1 := Lib.hid (awake_any w1 (HG.out.next (o0.fb (Nat.le_refl _))))
    clear NC d0 o0
    go_wp2_with fail
    refine P1.out.mono ?_
    rintro e w2 ⟨rfl, hb2⟩
    have K0 : Hid (LoopK w ⟨#[]⟩ false (w.heap.size + 2) w2) := Lib.hid ⟨_, Kp.new, D1.out.below hb2, O1.out.trans (Oth.of_below hb2)⟩
    clear P1 hb2 D1 O1
    go_wp2_with fail
    go_loopw [10, 11, 12] (fun xv yv iv wr => ∃ (i : Nat) (X : ByteArray) (y : Bool), i ≤ 12 ∧ i ≤ ts.length ∧ xv = .string X ∧ yv = .bool y ∧ iv = .int .i64 i ∧ X.size ≤ 300 ∧ Hid (LoopK w X y (w.heap.size + 2) wr)) (fun _ _ iv _ => 12 - (intOf iv).toNat)
    case atStart => exact ⟨0, _, _, by omega, by omega, rfl, rfl, rfl, by decide, K0⟩
    case round =>
      obtain ⟨i, X, y, hi12, hil, rfl, rfl, rfl, hX, HK⟩ := hrel
      by_cases hgo : i < ts.length ∧ i < 12
      · cases y
        · skip
          obtain ⟨hg1, hg2⟩ := hgo
          obtain ⟨d, K, D, O⟩ := HK.out
          obtain ⟨a, rfl, hcell⟩ := TA.out wr O i hg1
          have C1 := Lib.hid (cut_any ts[i] 300 wr (TM.out _ (List.getElem_mem hg1)) (by omega))
          have lc := cutB_size ts[i] 300
          generalize ts[i] = si at *
          generalize cutB si 300 = t at *
          have HF := Lib.hid (lenF t lc)
          have HO := Lib.hid O
          have g1 : decide ((i : Int) < (ts.length : Int)) = true := by simp; omega
          have g2 : decide ((i : Int) < 12) = true := by simp; omega
          by_cases ha : i < us.length
          · obtain ⟨b, rfl, hcellA⟩ := AA.out wr O i ha
            have AR := Lib.hid (arm_d D us[i] (AM.out _ (List.getElem_mem ha)))
            have K1 := Lib.hid (K.arm us[i])
            have g3 : decide ((i : Int) < (us.length : Int)) = true := by simp; omega
            generalize us[i] = ai at *
            generalize armDS d ai = d1 at *
            clear HK K0 K D O TA AA TM AM
            go_wp2_with fail
            refine C1.out.mono ?_
            rintro e w2 ⟨rfl, rfl⟩
            clear C1
            go_wp2_with fail
            refine AR.out.mono ?_
            rintro e w3 ⟨rfl, d3, o3⟩
            have O3 := Lib.hid (HO.out.trans o3)
            have P3 := Lib.hid (save_keep HG.out (O3.out.fb (Nat.le_refl _)) (Nat.le_refl _) d3 O3.out.size (by omega) K1.out t lc)
            have hc := (K1.out).len
            have HC := Lib.hid hc
            clear hc AR d3 o3 HO K1
            go_wp2_with fail
            refine P3.out.mono ?_
            rintro e w4 ⟨v4, rfl, d4, hc4, D4, o4⟩
            have O4 := Lib.hid (O3.out.trans o4)
            have DD := Lib.hid (dead_d D4)
            rcases hc4 with ⟨rfl, K4⟩ | ⟨rfl, X4⟩
            · rw [K4.dead] at DD
              have AR2 := Lib.hid (arm_d D4 (-1) (by omega))
              have K5 := Lib.hid (K4.arm (-1))
              generalize armDS d4 (-1) = d5 at *
              clear P3 D4 o4 K4 O3
              go_wp2_with fail
              refine DD.out.mono ?_
              rintro e w5 ⟨rfl, rfl⟩
              clear DD
              go_wp2_with fail
              refine AR2.out.mono ?_
              rintro e w6 ⟨rfl, d6, o6⟩
              have O6 := Lib.hid (O4.out.trans o6)
              have K6 := Lib.hid (And.intro K5.out d6)
              have L6 := Lib.hid (loadk_some (HG.out.next (O6.out.fb (Nat.le_refl _))) d6 (t := t) (by omega) K5.out)
              clear AR2 d6 o6 O4 K5
              go_wp2_with fail
              refine L6.out.mono ?_
              rintro e w7 ⟨rfl, hb7⟩
              have KN : Hid (LoopK w t true (w.heap.size + 2) w7) := Lib.hid ⟨_, K6.out.1, K6.out.2.below hb7, O6.out.trans (Oth.of_below hb7)⟩
              clear L6 hb7 K6 O6
              go_wp2
              go_roundw
              case rel => exact ⟨i + 1, t, true, by omega, by omega, rfl, rfl, by go_num, by omega, KN⟩
              case measure => simp [intOf]; omega
            · rw [X4.dead] at DD
              have AR2 := Lib.hid (arm_d D4 (-1) (by omega))
              rw [X4.arm (-1)] at AR2
              have HX := Lib.hid X4
              clear P3 D4 o4 X4 O3
              go_wp2_with fail
              refine DD.out.mono ?_
              rintro e w5 ⟨rfl, rfl⟩
              clear DD
              go_wp2_with fail
              refine AR2.out.mono ?_
              rintro e w6 ⟨rfl, d6, o6⟩
              have O6 := Lib.hid (O4.out.trans o6)
              have CR := Lib.hid (crash_d d6 (O6.out.up (Fb_up (Nat.le_refl _))) _ (ks.take 20) (KA.out w6 (O6.out.fb (Nat.le_refl _))) nm)
              have KC := kp_crash HX.out HC.out HF.out (ks.take 20) nm
              generalize crashD d4 (ks.take 20) nm = d7 at *
              clear AR2 d6 o6 O4 HX
              rcases KC with KC | KC
              · skip
                have HK7 := Lib.hid KC
                clear KC
                go_wp2_with fail
                refine CR.out.mono ?_
                rintro e w7 ⟨rfl, d7', o7⟩
                have O7 := Lib.hid (O6.out.trans o7)
                have HD7 := Lib.hid d7'
                have L7 := Lib.hid (loadk_none d7' HK7.out)
                clear CR d7' o7 O6
                go_wp2_with fail
                refine L7.out.mono ?_
                rintro e w8 ⟨rfl, hb8⟩
                have KN : Hid (LoopK w X false (w.heap.size + 2) w8) := Lib.hid ⟨_, HK7.out, HD7.out.below hb8, O7.out.trans (Oth.of_below hb8)⟩
                clear L7 hb8 HK7 HD7 O7
                go_wp2
                go_roundw
                case rel => exact ⟨i + 1, X, false, by omega, by omega, rfl, rfl, by go_num, by omega, KN⟩
                case measure => simp [intOf]; omega
              · skip
                have HK7 := Lib.hid KC
                clear KC
                go_wp2_with fail
                refine CR.out.mono ?_
                rintro e w7 ⟨rfl, d7', o7⟩
                have O7 := Lib.hid (O6.out.trans o7)
                have HD7 := Lib.hid d7'
                have L7 := Lib.hid (loadk_some (HG.out.next (O7.out.fb (Nat.le_refl _))) d7' (t := t) (by omega) HK7.out)
                clear CR d7' o7 O6
                go_wp2_with fail
                refine L7.out.mono ?_
                rintro e w8 ⟨rfl, hb8⟩
                have KN : Hid (LoopK w t true (w.heap.size + 2) w8) := Lib.hid ⟨_, HK7.out, HD7.out.below hb8, O7.out.trans (Oth.of_below hb8)⟩
                clear L7 hb8 HK7 HD7 O7
                go_wp2
                go_roundw
                case rel => exact ⟨i + 1, t, true, by omega, by omega, rfl, rfl, by go_num, by omega, KN⟩
                case measure => simp [intOf]; omega
          · have g3 : decide ((i : Int) < (us.length : Int)) = false := by simp; omega
            have P3 := Lib.hid (save_keep HG.out (HO.out.fb (Nat.le_refl _)) (Nat.le_refl _) D HO.out.size (by omega) K t lc)
            have hc := (K).len
            clear HK K0 K D O TA AA TM AM
            go_wp2_with fail
            refine C1.out.mono ?_
            rintro e w2 ⟨rfl, rfl⟩
            clear C1
            have HC := Lib.hid hc
            clear hc 
            go_wp2_with fail
            refine P3.out.mono ?_
            rintro e w4 ⟨v4, rfl, d4, hc4, D4, o4⟩
            have O4 := Lib.hid (HO.out.trans o4)
            have DD := Lib.hid (dead_d D4)
            rcases hc4 with ⟨rfl, K4⟩ | ⟨rfl, X4⟩
            · rw [K4.dead] at DD
              have AR2 := Lib.hid (arm_d D4 (-1) (by omega))
              have K5 := Lib.hid (K4.arm (-1))
              generalize armDS d4 (-1) = d5 at *
              clear P3 D4 o4 K4 HO
              go_wp2_with fail
              refine DD.out.mono ?_
              rintro e w5 ⟨rfl, rfl⟩
              clear DD
              go_wp2_with fail
              refine AR2.out.mono ?_
              rintro e w6 ⟨rfl, d6, o6⟩
              have O6 := Lib.hid (O4.out.trans o6)
              have K6 := Lib.hid (And.intro K5.out d6)
              have L6 := Lib.hid (loadk_some (HG.out.next (O6.out.fb (Nat.le_refl _))) d6 (t := t) (by omega) K5.out)
              clear AR2 d6 o6 O4 K5
              go_wp2_with fail
              refine L6.out.mono ?_
              rintro e w7 ⟨rfl, hb7⟩
              have KN : Hid (LoopK w t true (w.heap.size + 2) w7) := Lib.hid ⟨_, K6.out.1, K6.out.2.below hb7, O6.out.trans (Oth.of_below hb7)⟩
              clear L6 hb7 K6 O6
              go_wp2
              go_roundw
              case rel => exact ⟨i + 1, t, true, by omega, by omega, rfl, rfl, by go_num, by omega, KN⟩
              case measure => simp [intOf]; omega
            · rw [X4.dead] at DD
              have AR2 := Lib.hid (arm_d D4 (-1) (by omega))
              rw [X4.arm (-1)] at AR2
              have HX := Lib.hid X4
              clear P3 D4 o4 X4 HO
              go_wp2_with fail
              refine DD.out.mono ?_
              rintro e w5 ⟨rfl, rfl⟩
              clear DD
              go_wp2_with fail
              refine AR2.out.mono ?_
              rintro e w6 ⟨rfl, d6, o6⟩
              have O6 := Lib.hid (O4.out.trans o6)
              have CR := Lib.hid (crash_d d6 (O6.out.up (Fb_up (Nat.le_refl _))) _ (ks.take 20) (KA.out w6 (O6.out.fb (Nat.le_refl _))) nm)
              have KC := kp_crash HX.out HC.out HF.out (ks.take 20) nm
              generalize crashD d4 (ks.take 20) nm = d7 at *
              clear AR2 d6 o6 O4 HX
              rcases KC with KC | KC
              · skip
                have HK7 := Lib.hid KC
                clear KC
                go_wp2_with fail
                refine CR.out.mono ?_
                rintro e w7 ⟨rfl, d7', o7⟩
                have O7 := Lib.hid (O6.out.trans o7)
                have HD7 := Lib.hid d7'
                have L7 := Lib.hid (loadk_none d7' HK7.out)
                clear CR d7' o7 O6
                go_wp2_with fail
                refine L7.out.mono ?_
                rintro e w8 ⟨rfl, hb8⟩
                have KN : Hid (LoopK w X false (w.heap.size + 2) w8) := Lib.hid ⟨_, HK7.out, HD7.out.below hb8, O7.out.trans (Oth.of_below hb8)⟩
                clear L7 hb8 HK7 HD7 O7
                go_wp2
                go_roundw
                case rel => exact ⟨i + 1, X, false, by omega, by omega, rfl, rfl, by go_num, by omega, KN⟩
                case measure => simp [intOf]; omega
              · skip
                have HK7 := Lib.hid KC
                clear KC
                go_wp2_with fail
                refine CR.out.mono ?_
                rintro e w7 ⟨rfl, d7', o7⟩
                have O7 := Lib.hid (O6.out.trans o7)
                have HD7 := Lib.hid d7'
                have L7 := Lib.hid (loadk_some (HG.out.next (O7.out.fb (Nat.le_refl _))) d7' (t := t) (by omega) HK7.out)
                clear CR d7' o7 O6
                go_wp2_with fail
                refine L7.out.mono ?_
                rintro e w8 ⟨rfl, hb8⟩
                have KN : Hid (LoopK w t true (w.heap.size + 2) w8) := Lib.hid ⟨_, HK7.out, HD7.out.below hb8, O7.out.trans (Oth.of_below hb8)⟩
                clear L7 hb8 HK7 HD7 O7
                go_wp2
                go_roundw
                case rel => exact ⟨i + 1, t, true, by omega, by omega, rfl, rfl, by go_num, by omega, KN⟩
                case measure => simp [intOf]; omega
        · skip
          obtain ⟨hg1, hg2⟩ := hgo
          obtain ⟨d, K, D, O⟩ := HK.out
          obtain ⟨a, rfl, hcell⟩ := TA.out wr O i hg1
          have C1 := Lib.hid (cut_any ts[i] 300 wr (TM.out _ (List.getElem_mem hg1)) (by omega))
          have lc := cutB_size ts[i] 300
          generalize ts[i] = si at *
          generalize cutB si 300 = t at *
          have HF := Lib.hid (lenF t lc)
          have HO := Lib.hid O
          have g1 : decide ((i : Int) < (ts.length : Int)) = true := by simp; omega
          have g2 : decide ((i : Int) < 12) = true := by simp; omega
          by_cases ha : i < us.length
          · obtain ⟨b, rfl, hcellA⟩ := AA.out wr O i ha
            have AR := Lib.hid (arm_d D us[i] (AM.out _ (List.getElem_mem ha)))
            have K1 := Lib.hid (K.arm us[i])
            have g3 : decide ((i : Int) < (us.length : Int)) = true := by simp; omega
            generalize us[i] = ai at *
            generalize armDS d ai = d1 at *
            clear HK K0 K D O TA AA TM AM
            go_wp2_with fail
            refine C1.out.mono ?_
            rintro e w2 ⟨rfl, rfl⟩
            clear C1
            go_wp2_with fail
            refine AR.out.mono ?_
            rintro e w3 ⟨rfl, d3, o3⟩
            have O3 := Lib.hid (HO.out.trans o3)
            have P3 := Lib.hid (save_keep HG.out (O3.out.fb (Nat.le_refl _)) (Nat.le_refl _) d3 O3.out.size (by omega) K1.out t lc)
            have hc := (K1.out).len
            have HC := Lib.hid hc
            clear hc AR d3 o3 HO K1
            go_wp2_with fail
            refine P3.out.mono ?_
            rintro e w4 ⟨v4, rfl, d4, hc4, D4, o4⟩
            have O4 := Lib.hid (O3.out.trans o4)
            have DD := Lib.hid (dead_d D4)
            rcases hc4 with ⟨rfl, K4⟩ | ⟨rfl, X4⟩
            · rw [K4.dead] at DD
              have AR2 := Lib.hid (arm_d D4 (-1) (by omega))
              have K5 := Lib.hid (K4.arm (-1))
              generalize armDS d4 (-1) = d5 at *
              clear P3 D4 o4 K4 O3
              go_wp2_with fail
              refine DD.out.mono ?_
              rintro e w5 ⟨rfl, rfl⟩
              clear DD
              go_wp2_with fail
              refine AR2.out.mono ?_
              rintro e w6 ⟨rfl, d6, o6⟩
              have O6 := Lib.hid (O4.out.trans o6)
              have K6 := Lib.hid (And.intro K5.out d6)
              have L6 := Lib.hid (loadk_some (HG.out.next (O6.out.fb (Nat.le_refl _))) d6 (t := t) (by omega) K5.out)
              clear AR2 d6 o6 O4 K5
              go_wp2_with fail
              refine L6.out.mono ?_
              rintro e w7 ⟨rfl, hb7⟩
              have KN : Hid (LoopK w t true (w.heap.size + 2) w7) := Lib.hid ⟨_, K6.out.1, K6.out.2.below hb7, O6.out.trans (Oth.of_below hb7)⟩
              clear L6 hb7 K6 O6
              go_wp2
              go_roundw
              case rel => exact ⟨i + 1, t, true, by omega, by omega, rfl, rfl, by go_num, by omega, KN⟩
              case measure => simp [intOf]; omega
            · rw [X4.dead] at DD
              have AR2 := Lib.hid (arm_d D4 (-1) (by omega))
              rw [X4.arm (-1)] at AR2
              have HX := Lib.hid X4
              clear P3 D4 o4 X4 O3
              go_wp2_with fail
              refine DD.out.mono ?_
              rintro e w5 ⟨rfl, rfl⟩
              clear DD
              go_wp2_with fail
              refine AR2.out.mono ?_
              rintro e w6 ⟨rfl, d6, o6⟩
              have O6 := Lib.hid (O4.out.trans o6)
              have CR := Lib.hid (crash_d d6 (O6.out.up (Fb_up (Nat.le_refl _))) _ (ks.take 20) (KA.out w6 (O6.out.fb (Nat.le_refl _))) nm)
              have KC := kp_crash HX.out HC.out HF.out (ks.take 20) nm
              generalize crashD d4 (ks.take 20) nm = d7 at *
              clear AR2 d6 o6 O4 HX
              rcases KC with KC | KC
              · by_cases hxt : X = t
                · subst hxt
                  have HK7 := Lib.hid KC
                  clear KC
                  go_wp2_with fail
                  refine CR.out.mono ?_
                  rintro e w7 ⟨rfl, d7', o7⟩
                  have O7 := Lib.hid (O6.out.trans o7)
                  have HD7 := Lib.hid d7'
                  have L7 := Lib.hid (loadk_some (HG.out.next (O7.out.fb (Nat.le_refl _))) d7' (t := X) (by omega) HK7.out)
                  clear CR d7' o7 O6
                  go_wp2_with fail
                  refine L7.out.mono ?_
                  rintro e w8 ⟨rfl, hb8⟩
                  have KN : Hid (LoopK w X true (w.heap.size + 2) w8) := Lib.hid ⟨_, HK7.out, HD7.out.below hb8, O7.out.trans (Oth.of_below hb8)⟩
                  clear L7 hb8 HK7 HD7 O7
                  go_wp2
                  go_roundw
                  case rel => exact ⟨i + 1, X, true, by omega, by omega, rfl, rfl, by go_num, by omega, KN⟩
                  case measure => simp [intOf]; omega
                · have hne := bytes_ne hxt
                  have HK7 := Lib.hid KC
                  clear KC
                  go_wp2_with fail
                  refine CR.out.mono ?_
                  rintro e w7 ⟨rfl, d7', o7⟩
                  have O7 := Lib.hid (O6.out.trans o7)
                  have HD7 := Lib.hid d7'
                  have L7 := Lib.hid (loadk_some (HG.out.next (O7.out.fb (Nat.le_refl _))) d7' (t := X) (by omega) HK7.out)
                  clear CR d7' o7 O6
                  go_wp2_with fail
                  refine L7.out.mono ?_
                  rintro e w8 ⟨rfl, hb8⟩
                  have KN : Hid (LoopK w X true (w.heap.size + 2) w8) := Lib.hid ⟨_, HK7.out, HD7.out.below hb8, O7.out.trans (Oth.of_below hb8)⟩
                  clear L7 hb8 HK7 HD7 O7
                  go_wp2
                  go_roundw
                  case rel => exact ⟨i + 1, X, true, by omega, by omega, rfl, rfl, by go_num, by omega, KN⟩
                  case measure => simp [intOf]; omega
              · skip
                have HK7 := Lib.hid KC
                clear KC
                go_wp2_with fail
                refine CR.out.mono ?_
                rintro e w7 ⟨rfl, d7', o7⟩
                have O7 := Lib.hid (O6.out.trans o7)
                have HD7 := Lib.hid d7'
                have L7 := Lib.hid (loadk_some (HG.out.next (O7.out.fb (Nat.le_refl _))) d7' (t := t) (by omega) HK7.out)
                clear CR d7' o7 O6
                go_wp2_with fail
                refine L7.out.mono ?_
                rintro e w8 ⟨rfl, hb8⟩
                have KN : Hid (LoopK w t true (w.heap.size + 2) w8) := Lib.hid ⟨_, HK7.out, HD7.out.below hb8, O7.out.trans (Oth.of_below hb8)⟩
                clear L7 hb8 HK7 HD7 O7
                go_wp2
                go_roundw
                case rel => exact ⟨i + 1, t, true, by omega, by omega, rfl, rfl, by go_num, by omega, KN⟩
                case measure => simp [intOf]; omega
          · have g3 : decide ((i : Int) < (us.length : Int)) = false := by simp; omega
            have P3 := Lib.hid (save_keep HG.out (HO.out.fb (Nat.le_refl _)) (Nat.le_refl _) D HO.out.size (by omega) K t lc)
            have hc := (K).len
            clear HK K0 K D O TA AA TM AM
            go_wp2_with fail
            refine C1.out.mono ?_
            rintro e w2 ⟨rfl, rfl⟩
            clear C1
            have HC := Lib.hid hc
            clear hc 
            go_wp2_with fail
            refine P3.out.mono ?_
            rintro e w4 ⟨v4, rfl, d4, hc4, D4, o4⟩
            have O4 := Lib.hid (HO.out.trans o4)
            have DD := Lib.hid (dead_d D4)
            rcases hc4 with ⟨rfl, K4⟩ | ⟨rfl, X4⟩
            · rw [K4.dead] at DD
              have AR2 := Lib.hid (arm_d D4 (-1) (by omega))
              have K5 := Lib.hid (K4.arm (-1))
              generalize armDS d4 (-1) = d5 at *
              clear P3 D4 o4 K4 HO
              go_wp2_with fail
              refine DD.out.mono ?_
              rintro e w5 ⟨rfl, rfl⟩
              clear DD
              go_wp2_with fail
              refine AR2.out.mono ?_
              rintro e w6 ⟨rfl, d6, o6⟩
              have O6 := Lib.hid (O4.out.trans o6)
              have K6 := Lib.hid (And.intro K5.out d6)
              have L6 := Lib.hid (loadk_some (HG.out.next (O6.out.fb (Nat.le_refl _))) d6 (t := t) (by omega) K5.out)
              clear AR2 d6 o6 O4 K5
              go_wp2_with fail
              refine L6.out.mono ?_
              rintro e w7 ⟨rfl, hb7⟩
              have KN : Hid (LoopK w t true (w.heap.size + 2) w7) := Lib.hid ⟨_, K6.out.1, K6.out.2.below hb7, O6.out.trans (Oth.of_below hb7)⟩
              clear L6 hb7 K6 O6
              go_wp2
              go_roundw
              case rel => exact ⟨i + 1, t, true, by omega, by omega, rfl, rfl, by go_num, by omega, KN⟩
              case measure => simp [intOf]; omega
            · rw [X4.dead] at DD
              have AR2 := Lib.hid (arm_d D4 (-1) (by omega))
              rw [X4.arm (-1)] at AR2
              have HX := Lib.hid X4
              clear P3 D4 o4 X4 HO
              go_wp2_with fail
              refine DD.out.mono ?_
              rintro e w5 ⟨rfl, rfl⟩
              clear DD
              go_wp2_with fail
              refine AR2.out.mono ?_
              rintro e w6 ⟨rfl, d6, o6⟩
              have O6 := Lib.hid (O4.out.trans o6)
              have CR := Lib.hid (crash_d d6 (O6.out.up (Fb_up (Nat.le_refl _))) _ (ks.take 20) (KA.out w6 (O6.out.fb (Nat.le_refl _))) nm)
              have KC := kp_crash HX.out HC.out HF.out (ks.take 20) nm
              generalize crashD d4 (ks.take 20) nm = d7 at *
              clear AR2 d6 o6 O4 HX
              rcases KC with KC | KC
              · by_cases hxt : X = t
                · subst hxt
                  have HK7 := Lib.hid KC
                  clear KC
                  go_wp2_with fail
                  refine CR.out.mono ?_
                  rintro e w7 ⟨rfl, d7', o7⟩
                  have O7 := Lib.hid (O6.out.trans o7)
                  have HD7 := Lib.hid d7'
                  have L7 := Lib.hid (loadk_some (HG.out.next (O7.out.fb (Nat.le_refl _))) d7' (t := X) (by omega) HK7.out)
                  clear CR d7' o7 O6
                  go_wp2_with fail
                  refine L7.out.mono ?_
                  rintro e w8 ⟨rfl, hb8⟩
                  have KN : Hid (LoopK w X true (w.heap.size + 2) w8) := Lib.hid ⟨_, HK7.out, HD7.out.below hb8, O7.out.trans (Oth.of_below hb8)⟩
                  clear L7 hb8 HK7 HD7 O7
                  go_wp2
                  go_roundw
                  case rel => exact ⟨i + 1, X, true, by omega, by omega, rfl, rfl, by go_num, by omega, KN⟩
                  case measure => simp [intOf]; omega
                · have hne := bytes_ne hxt
                  have HK7 := Lib.hid KC
                  clear KC
                  go_wp2_with fail
                  refine CR.out.mono ?_
                  rintro e w7 ⟨rfl, d7', o7⟩
                  have O7 := Lib.hid (O6.out.trans o7)
                  have HD7 := Lib.hid d7'
                  have L7 := Lib.hid (loadk_some (HG.out.next (O7.out.fb (Nat.le_refl _))) d7' (t := X) (by omega) HK7.out)
                  clear CR d7' o7 O6
                  go_wp2_with fail
                  refine L7.out.mono ?_
                  rintro e w8 ⟨rfl, hb8⟩
                  have KN : Hid (LoopK w X true (w.heap.size + 2) w8) := Lib.hid ⟨_, HK7.out, HD7.out.below hb8, O7.out.trans (Oth.of_below hb8)⟩
                  clear L7 hb8 HK7 HD7 O7
                  go_wp2
                  go_roundw
                  case rel => exact ⟨i + 1, X, true, by omega, by omega, rfl, rfl, by go_num, by omega, KN⟩
                  case measure => simp [intOf]; omega
              · skip
                have HK7 := Lib.hid KC
                clear KC
                go_wp2_with fail
                refine CR.out.mono ?_
                rintro e w7 ⟨rfl, d7', o7⟩
                have O7 := Lib.hid (O6.out.trans o7)
                have HD7 := Lib.hid d7'
                have L7 := Lib.hid (loadk_some (HG.out.next (O7.out.fb (Nat.le_refl _))) d7' (t := t) (by omega) HK7.out)
                clear CR d7' o7 O6
                go_wp2_with fail
                refine L7.out.mono ?_
                rintro e w8 ⟨rfl, hb8⟩
                have KN : Hid (LoopK w t true (w.heap.size + 2) w8) := Lib.hid ⟨_, HK7.out, HD7.out.below hb8, O7.out.trans (Oth.of_below hb8)⟩
                clear L7 hb8 HK7 HD7 O7
                go_wp2
                go_roundw
                case rel => exact ⟨i + 1, t, true, by omega, by omega, rfl, rfl, by go_num, by omega, KN⟩
                case measure => simp [intOf]; omega
      · obtain ⟨d, K, D, O⟩ := HK.out
        have HO := Lib.hid O
        clear HK K0 K D O TA AA TM AM
        by_cases hl2 : i < ts.length
        · have g1 : decide ((i : Int) < (ts.length : Int)) = true := by simp; omega
          have g2 : decide ((i : Int) < 12) = false := by simp; omega
          go_wp2
          go_ret
          exact ⟨rfl, HO.out.fb (Nat.le_refl _)⟩
        · have g1 : decide ((i : Int) < (ts.length : Int)) = false := by simp; omega
          go_wp2
          go_ret
          exact ⟨rfl, HO.out.fb (Nat.le_refl _)⟩
  · have hkd : decide ((20 : Int) < (ks.length : Int)) = false := by simpa using (by omega : ¬ (20 : Int) < (ks.length : Int))
    have KA := Lib.hid (fun (w' : World) (hb : Below w.heap.size w w') => nums_keeps (c := kc) (by omega : ks.length ≤ 20) kmx kat hb)
    clear kmx kat
    go_enter Tryz.func3, Tryz.ntmps3
    go_wp2_with fail
    refine NC.out.mono ?_
    rintro e w1 ⟨rfl, d0, o0⟩
    have O1 := Lib.hid o0
    have D1 := Lib.hid d0
    have P1 := Lib.hid (awake_any w1 (HG.out.next (o0.fb (Nat.le_refl _))))
    clear NC d0 o0
    go_wp2_with fail
    refine P1.out.mono ?_
    rintro e w2 ⟨rfl, hb2⟩
    have K0 : Hid (LoopK w ⟨#[]⟩ false (w.heap.size + 2) w2) := Lib.hid ⟨_, Kp.new, D1.out.below hb2, O1.out.trans (Oth.of_below hb2)⟩
    clear P1 hb2 D1 O1
    go_wp2_with fail
    go_loopw [10, 11, 12] (fun xv yv iv wr => ∃ (i : Nat) (X : ByteArray) (y : Bool), i ≤ 12 ∧ i ≤ ts.length ∧ xv = .string X ∧ yv = .bool y ∧ iv = .int .i64 i ∧ X.size ≤ 300 ∧ Hid (LoopK w X y (w.heap.size + 2) wr)) (fun _ _ iv _ => 12 - (intOf iv).toNat)
    case atStart => exact ⟨0, _, _, by omega, by omega, rfl, rfl, rfl, by decide, K0⟩
    case round =>
      obtain ⟨i, X, y, hi12, hil, rfl, rfl, rfl, hX, HK⟩ := hrel
      by_cases hgo : i < ts.length ∧ i < 12
      · cases y
        · skip
          obtain ⟨hg1, hg2⟩ := hgo
          obtain ⟨d, K, D, O⟩ := HK.out
          obtain ⟨a, rfl, hcell⟩ := TA.out wr O i hg1
          have C1 := Lib.hid (cut_any ts[i] 300 wr (TM.out _ (List.getElem_mem hg1)) (by omega))
          have lc := cutB_size ts[i] 300
          generalize ts[i] = si at *
          generalize cutB si 300 = t at *
          have HF := Lib.hid (lenF t lc)
          have HO := Lib.hid O
          have g1 : decide ((i : Int) < (ts.length : Int)) = true := by simp; omega
          have g2 : decide ((i : Int) < 12) = true := by simp; omega
          by_cases ha : i < us.length
          · obtain ⟨b, rfl, hcellA⟩ := AA.out wr O i ha
            have AR := Lib.hid (arm_d D us[i] (AM.out _ (List.getElem_mem ha)))
            have K1 := Lib.hid (K.arm us[i])
            have g3 : decide ((i : Int) < (us.length : Int)) = true := by simp; omega
            generalize us[i] = ai at *
            generalize armDS d ai = d1 at *
            clear HK K0 K D O TA AA TM AM
            go_wp2_with fail
            refine C1.out.mono ?_
            rintro e w2 ⟨rfl, rfl⟩
            clear C1
            go_wp2_with fail
            refine AR.out.mono ?_
            rintro e w3 ⟨rfl, d3, o3⟩
            have O3 := Lib.hid (HO.out.trans o3)
            have P3 := Lib.hid (save_keep HG.out (O3.out.fb (Nat.le_refl _)) (Nat.le_refl _) d3 O3.out.size (by omega) K1.out t lc)
            have hc := (K1.out).len
            have HC := Lib.hid hc
            clear hc AR d3 o3 HO K1
            go_wp2_with fail
            refine P3.out.mono ?_
            rintro e w4 ⟨v4, rfl, d4, hc4, D4, o4⟩
            have O4 := Lib.hid (O3.out.trans o4)
            have DD := Lib.hid (dead_d D4)
            rcases hc4 with ⟨rfl, K4⟩ | ⟨rfl, X4⟩
            · rw [K4.dead] at DD
              have AR2 := Lib.hid (arm_d D4 (-1) (by omega))
              have K5 := Lib.hid (K4.arm (-1))
              generalize armDS d4 (-1) = d5 at *
              clear P3 D4 o4 K4 O3
              go_wp2_with fail
              refine DD.out.mono ?_
              rintro e w5 ⟨rfl, rfl⟩
              clear DD
              go_wp2_with fail
              refine AR2.out.mono ?_
              rintro e w6 ⟨rfl, d6, o6⟩
              have O6 := Lib.hid (O4.out.trans o6)
              have K6 := Lib.hid (And.intro K5.out d6)
              have L6 := Lib.hid (loadk_some (HG.out.next (O6.out.fb (Nat.le_refl _))) d6 (t := t) (by omega) K5.out)
              clear AR2 d6 o6 O4 K5
              go_wp2_with fail
              refine L6.out.mono ?_
              rintro e w7 ⟨rfl, hb7⟩
              have KN : Hid (LoopK w t true (w.heap.size + 2) w7) := Lib.hid ⟨_, K6.out.1, K6.out.2.below hb7, O6.out.trans (Oth.of_below hb7)⟩
              clear L6 hb7 K6 O6
              go_wp2
              go_roundw
              case rel => exact ⟨i + 1, t, true, by omega, by omega, rfl, rfl, by go_num, by omega, KN⟩
              case measure => simp [intOf]; omega
            · rw [X4.dead] at DD
              have AR2 := Lib.hid (arm_d D4 (-1) (by omega))
              rw [X4.arm (-1)] at AR2
              have HX := Lib.hid X4
              clear P3 D4 o4 X4 O3
              go_wp2_with fail
              refine DD.out.mono ?_
              rintro e w5 ⟨rfl, rfl⟩
              clear DD
              go_wp2_with fail
              refine AR2.out.mono ?_
              rintro e w6 ⟨rfl, d6, o6⟩
              have O6 := Lib.hid (O4.out.trans o6)
              have CR := Lib.hid (crash_d d6 (O6.out.up (Fb_up (Nat.le_refl _))) _ ks (KA.out w6 (O6.out.fb (Nat.le_refl _))) nm)
              have KC := kp_crash HX.out HC.out HF.out ks nm
              generalize crashD d4 ks nm = d7 at *
              clear AR2 d6 o6 O4 HX
              rcases KC with KC | KC
              · skip
                have HK7 := Lib.hid KC
                clear KC
                go_wp2_with fail
                refine CR.out.mono ?_
                rintro e w7 ⟨rfl, d7', o7⟩
                have O7 := Lib.hid (O6.out.trans o7)
                have HD7 := Lib.hid d7'
                have L7 := Lib.hid (loadk_none d7' HK7.out)
                clear CR d7' o7 O6
                go_wp2_with fail
                refine L7.out.mono ?_
                rintro e w8 ⟨rfl, hb8⟩
                have KN : Hid (LoopK w X false (w.heap.size + 2) w8) := Lib.hid ⟨_, HK7.out, HD7.out.below hb8, O7.out.trans (Oth.of_below hb8)⟩
                clear L7 hb8 HK7 HD7 O7
                go_wp2
                go_roundw
                case rel => exact ⟨i + 1, X, false, by omega, by omega, rfl, rfl, by go_num, by omega, KN⟩
                case measure => simp [intOf]; omega
              · skip
                have HK7 := Lib.hid KC
                clear KC
                go_wp2_with fail
                refine CR.out.mono ?_
                rintro e w7 ⟨rfl, d7', o7⟩
                have O7 := Lib.hid (O6.out.trans o7)
                have HD7 := Lib.hid d7'
                have L7 := Lib.hid (loadk_some (HG.out.next (O7.out.fb (Nat.le_refl _))) d7' (t := t) (by omega) HK7.out)
                clear CR d7' o7 O6
                go_wp2_with fail
                refine L7.out.mono ?_
                rintro e w8 ⟨rfl, hb8⟩
                have KN : Hid (LoopK w t true (w.heap.size + 2) w8) := Lib.hid ⟨_, HK7.out, HD7.out.below hb8, O7.out.trans (Oth.of_below hb8)⟩
                clear L7 hb8 HK7 HD7 O7
                go_wp2
                go_roundw
                case rel => exact ⟨i + 1, t, true, by omega, by omega, rfl, rfl, by go_num, by omega, KN⟩
                case measure => simp [intOf]; omega
          · have g3 : decide ((i : Int) < (us.length : Int)) = false := by simp; omega
            have P3 := Lib.hid (save_keep HG.out (HO.out.fb (Nat.le_refl _)) (Nat.le_refl _) D HO.out.size (by omega) K t lc)
            have hc := (K).len
            clear HK K0 K D O TA AA TM AM
            go_wp2_with fail
            refine C1.out.mono ?_
            rintro e w2 ⟨rfl, rfl⟩
            clear C1
            have HC := Lib.hid hc
            clear hc 
            go_wp2_with fail
            refine P3.out.mono ?_
            rintro e w4 ⟨v4, rfl, d4, hc4, D4, o4⟩
            have O4 := Lib.hid (HO.out.trans o4)
            have DD := Lib.hid (dead_d D4)
            rcases hc4 with ⟨rfl, K4⟩ | ⟨rfl, X4⟩
            · rw [K4.dead] at DD
              have AR2 := Lib.hid (arm_d D4 (-1) (by omega))
              have K5 := Lib.hid (K4.arm (-1))
              generalize armDS d4 (-1) = d5 at *
              clear P3 D4 o4 K4 HO
              go_wp2_with fail
              refine DD.out.mono ?_
              rintro e w5 ⟨rfl, rfl⟩
              clear DD
              go_wp2_with fail
              refine AR2.out.mono ?_
              rintro e w6 ⟨rfl, d6, o6⟩
              have O6 := Lib.hid (O4.out.trans o6)
              have K6 := Lib.hid (And.intro K5.out d6)
              have L6 := Lib.hid (loadk_some (HG.out.next (O6.out.fb (Nat.le_refl _))) d6 (t := t) (by omega) K5.out)
              clear AR2 d6 o6 O4 K5
              go_wp2_with fail
              refine L6.out.mono ?_
              rintro e w7 ⟨rfl, hb7⟩
              have KN : Hid (LoopK w t true (w.heap.size + 2) w7) := Lib.hid ⟨_, K6.out.1, K6.out.2.below hb7, O6.out.trans (Oth.of_below hb7)⟩
              clear L6 hb7 K6 O6
              go_wp2
              go_roundw
              case rel => exact ⟨i + 1, t, true, by omega, by omega, rfl, rfl, by go_num, by omega, KN⟩
              case measure => simp [intOf]; omega
            · rw [X4.dead] at DD
              have AR2 := Lib.hid (arm_d D4 (-1) (by omega))
              rw [X4.arm (-1)] at AR2
              have HX := Lib.hid X4
              clear P3 D4 o4 X4 HO
              go_wp2_with fail
              refine DD.out.mono ?_
              rintro e w5 ⟨rfl, rfl⟩
              clear DD
              go_wp2_with fail
              refine AR2.out.mono ?_
              rintro e w6 ⟨rfl, d6, o6⟩
              have O6 := Lib.hid (O4.out.trans o6)
              have CR := Lib.hid (crash_d d6 (O6.out.up (Fb_up (Nat.le_refl _))) _ ks (KA.out w6 (O6.out.fb (Nat.le_refl _))) nm)
              have KC := kp_crash HX.out HC.out HF.out ks nm
              generalize crashD d4 ks nm = d7 at *
              clear AR2 d6 o6 O4 HX
              rcases KC with KC | KC
              · skip
                have HK7 := Lib.hid KC
                clear KC
                go_wp2_with fail
                refine CR.out.mono ?_
                rintro e w7 ⟨rfl, d7', o7⟩
                have O7 := Lib.hid (O6.out.trans o7)
                have HD7 := Lib.hid d7'
                have L7 := Lib.hid (loadk_none d7' HK7.out)
                clear CR d7' o7 O6
                go_wp2_with fail
                refine L7.out.mono ?_
                rintro e w8 ⟨rfl, hb8⟩
                have KN : Hid (LoopK w X false (w.heap.size + 2) w8) := Lib.hid ⟨_, HK7.out, HD7.out.below hb8, O7.out.trans (Oth.of_below hb8)⟩
                clear L7 hb8 HK7 HD7 O7
                go_wp2
                go_roundw
                case rel => exact ⟨i + 1, X, false, by omega, by omega, rfl, rfl, by go_num, by omega, KN⟩
                case measure => simp [intOf]; omega
              · skip
                have HK7 := Lib.hid KC
                clear KC
                go_wp2_with fail
                refine CR.out.mono ?_
                rintro e w7 ⟨rfl, d7', o7⟩
                have O7 := Lib.hid (O6.out.trans o7)
                have HD7 := Lib.hid d7'
                have L7 := Lib.hid (loadk_some (HG.out.next (O7.out.fb (Nat.le_refl _))) d7' (t := t) (by omega) HK7.out)
                clear CR d7' o7 O6
                go_wp2_with fail
                refine L7.out.mono ?_
                rintro e w8 ⟨rfl, hb8⟩
                have KN : Hid (LoopK w t true (w.heap.size + 2) w8) := Lib.hid ⟨_, HK7.out, HD7.out.below hb8, O7.out.trans (Oth.of_below hb8)⟩
                clear L7 hb8 HK7 HD7 O7
                go_wp2
                go_roundw
                case rel => exact ⟨i + 1, t, true, by omega, by omega, rfl, rfl, by go_num, by omega, KN⟩
                case measure => simp [intOf]; omega
        · skip
          obtain ⟨hg1, hg2⟩ := hgo
          obtain ⟨d, K, D, O⟩ := HK.out
          obtain ⟨a, rfl, hcell⟩ := TA.out wr O i hg1
          have C1 := Lib.hid (cut_any ts[i] 300 wr (TM.out _ (List.getElem_mem hg1)) (by omega))
          have lc := cutB_size ts[i] 300
          generalize ts[i] = si at *
          generalize cutB si 300 = t at *
          have HF := Lib.hid (lenF t lc)
          have HO := Lib.hid O
          have g1 : decide ((i : Int) < (ts.length : Int)) = true := by simp; omega
          have g2 : decide ((i : Int) < 12) = true := by simp; omega
          by_cases ha : i < us.length
          · obtain ⟨b, rfl, hcellA⟩ := AA.out wr O i ha
            have AR := Lib.hid (arm_d D us[i] (AM.out _ (List.getElem_mem ha)))
            have K1 := Lib.hid (K.arm us[i])
            have g3 : decide ((i : Int) < (us.length : Int)) = true := by simp; omega
            generalize us[i] = ai at *
            generalize armDS d ai = d1 at *
            clear HK K0 K D O TA AA TM AM
            go_wp2_with fail
            refine C1.out.mono ?_
            rintro e w2 ⟨rfl, rfl⟩
            clear C1
            go_wp2_with fail
            refine AR.out.mono ?_
            rintro e w3 ⟨rfl, d3, o3⟩
            have O3 := Lib.hid (HO.out.trans o3)
            have P3 := Lib.hid (save_keep HG.out (O3.out.fb (Nat.le_refl _)) (Nat.le_refl _) d3 O3.out.size (by omega) K1.out t lc)
            have hc := (K1.out).len
            have HC := Lib.hid hc
            clear hc AR d3 o3 HO K1
            go_wp2_with fail
            refine P3.out.mono ?_
            rintro e w4 ⟨v4, rfl, d4, hc4, D4, o4⟩
            have O4 := Lib.hid (O3.out.trans o4)
            have DD := Lib.hid (dead_d D4)
            rcases hc4 with ⟨rfl, K4⟩ | ⟨rfl, X4⟩
            · rw [K4.dead] at DD
              have AR2 := Lib.hid (arm_d D4 (-1) (by omega))
              have K5 := Lib.hid (K4.arm (-1))
              generalize armDS d4 (-1) = d5 at *
              clear P3 D4 o4 K4 O3
              go_wp2_with fail
              refine DD.out.mono ?_
              rintro e w5 ⟨rfl, rfl⟩
              clear DD
              go_wp2_with fail
              refine AR2.out.mono ?_
              rintro e w6 ⟨rfl, d6, o6⟩
              have O6 := Lib.hid (O4.out.trans o6)
              have K6 := Lib.hid (And.intro K5.out d6)
              have L6 := Lib.hid (loadk_some (HG.out.next (O6.out.fb (Nat.le_refl _))) d6 (t := t) (by omega) K5.out)
              clear AR2 d6 o6 O4 K5
              go_wp2_with fail
              refine L6.out.mono ?_
              rintro e w7 ⟨rfl, hb7⟩
              have KN : Hid (LoopK w t true (w.heap.size + 2) w7) := Lib.hid ⟨_, K6.out.1, K6.out.2.below hb7, O6.out.trans (Oth.of_below hb7)⟩
              clear L6 hb7 K6 O6
              go_wp2
              go_roundw
              case rel => exact ⟨i + 1, t, true, by omega, by omega, rfl, rfl, by go_num, by omega, KN⟩
              case measure => simp [intOf]; omega
            · rw [X4.dead] at DD
              have AR2 := Lib.hid (arm_d D4 (-1) (by omega))
              rw [X4.arm (-1)] at AR2
              have HX := Lib.hid X4
              clear P3 D4 o4 X4 O3
              go_wp2_with fail
              refine DD.out.mono ?_
              rintro e w5 ⟨rfl, rfl⟩
              clear DD
              go_wp2_with fail
              refine AR2.out.mono ?_
              rintro e w6 ⟨rfl, d6, o6⟩
              have O6 := Lib.hid (O4.out.trans o6)
              have CR := Lib.hid (crash_d d6 (O6.out.up (Fb_up (Nat.le_refl _))) _ ks (KA.out w6 (O6.out.fb (Nat.le_refl _))) nm)
              have KC := kp_crash HX.out HC.out HF.out ks nm
              generalize crashD d4 ks nm = d7 at *
              clear AR2 d6 o6 O4 HX
              rcases KC with KC | KC
              · by_cases hxt : X = t
                · subst hxt
                  have HK7 := Lib.hid KC
                  clear KC
                  go_wp2_with fail
                  refine CR.out.mono ?_
                  rintro e w7 ⟨rfl, d7', o7⟩
                  have O7 := Lib.hid (O6.out.trans o7)
                  have HD7 := Lib.hid d7'
                  have L7 := Lib.hid (loadk_some (HG.out.next (O7.out.fb (Nat.le_refl _))) d7' (t := X) (by omega) HK7.out)
                  clear CR d7' o7 O6
                  go_wp2_with fail
                  refine L7.out.mono ?_
                  rintro e w8 ⟨rfl, hb8⟩
                  have KN : Hid (LoopK w X true (w.heap.size + 2) w8) := Lib.hid ⟨_, HK7.out, HD7.out.below hb8, O7.out.trans (Oth.of_below hb8)⟩
                  clear L7 hb8 HK7 HD7 O7
                  go_wp2
                  go_roundw
                  case rel => exact ⟨i + 1, X, true, by omega, by omega, rfl, rfl, by go_num, by omega, KN⟩
                  case measure => simp [intOf]; omega
                · have hne := bytes_ne hxt
                  have HK7 := Lib.hid KC
                  clear KC
                  go_wp2_with fail
                  refine CR.out.mono ?_
                  rintro e w7 ⟨rfl, d7', o7⟩
                  have O7 := Lib.hid (O6.out.trans o7)
                  have HD7 := Lib.hid d7'
                  have L7 := Lib.hid (loadk_some (HG.out.next (O7.out.fb (Nat.le_refl _))) d7' (t := X) (by omega) HK7.out)
                  clear CR d7' o7 O6
                  go_wp2_with fail
                  refine L7.out.mono ?_
                  rintro e w8 ⟨rfl, hb8⟩
                  have KN : Hid (LoopK w X true (w.heap.size + 2) w8) := Lib.hid ⟨_, HK7.out, HD7.out.below hb8, O7.out.trans (Oth.of_below hb8)⟩
                  clear L7 hb8 HK7 HD7 O7
                  go_wp2
                  go_roundw
                  case rel => exact ⟨i + 1, X, true, by omega, by omega, rfl, rfl, by go_num, by omega, KN⟩
                  case measure => simp [intOf]; omega
              · skip
                have HK7 := Lib.hid KC
                clear KC
                go_wp2_with fail
                refine CR.out.mono ?_
                rintro e w7 ⟨rfl, d7', o7⟩
                have O7 := Lib.hid (O6.out.trans o7)
                have HD7 := Lib.hid d7'
                have L7 := Lib.hid (loadk_some (HG.out.next (O7.out.fb (Nat.le_refl _))) d7' (t := t) (by omega) HK7.out)
                clear CR d7' o7 O6
                go_wp2_with fail
                refine L7.out.mono ?_
                rintro e w8 ⟨rfl, hb8⟩
                have KN : Hid (LoopK w t true (w.heap.size + 2) w8) := Lib.hid ⟨_, HK7.out, HD7.out.below hb8, O7.out.trans (Oth.of_below hb8)⟩
                clear L7 hb8 HK7 HD7 O7
                go_wp2
                go_roundw
                case rel => exact ⟨i + 1, t, true, by omega, by omega, rfl, rfl, by go_num, by omega, KN⟩
                case measure => simp [intOf]; omega
          · have g3 : decide ((i : Int) < (us.length : Int)) = false := by simp; omega
            have P3 := Lib.hid (save_keep HG.out (HO.out.fb (Nat.le_refl _)) (Nat.le_refl _) D HO.out.size (by omega) K t lc)
            have hc := (K).len
            clear HK K0 K D O TA AA TM AM
            go_wp2_with fail
            refine C1.out.mono ?_
            rintro e w2 ⟨rfl, rfl⟩
            clear C1
            have HC := Lib.hid hc
            clear hc 
            go_wp2_with fail
            refine P3.out.mono ?_
            rintro e w4 ⟨v4, rfl, d4, hc4, D4, o4⟩
            have O4 := Lib.hid (HO.out.trans o4)
            have DD := Lib.hid (dead_d D4)
            rcases hc4 with ⟨rfl, K4⟩ | ⟨rfl, X4⟩
            · rw [K4.dead] at DD
              have AR2 := Lib.hid (arm_d D4 (-1) (by omega))
              have K5 := Lib.hid (K4.arm (-1))
              generalize armDS d4 (-1) = d5 at *
              clear P3 D4 o4 K4 HO
              go_wp2_with fail
              refine DD.out.mono ?_
              rintro e w5 ⟨rfl, rfl⟩
              clear DD
              go_wp2_with fail
              refine AR2.out.mono ?_
              rintro e w6 ⟨rfl, d6, o6⟩
              have O6 := Lib.hid (O4.out.trans o6)
              have K6 := Lib.hid (And.intro K5.out d6)
              have L6 := Lib.hid (loadk_some (HG.out.next (O6.out.fb (Nat.le_refl _))) d6 (t := t) (by omega) K5.out)
              clear AR2 d6 o6 O4 K5
              go_wp2_with fail
              refine L6.out.mono ?_
              rintro e w7 ⟨rfl, hb7⟩
              have KN : Hid (LoopK w t true (w.heap.size + 2) w7) := Lib.hid ⟨_, K6.out.1, K6.out.2.below hb7, O6.out.trans (Oth.of_below hb7)⟩
              clear L6 hb7 K6 O6
              go_wp2
              go_roundw
              case rel => exact ⟨i + 1, t, true, by omega, by omega, rfl, rfl, by go_num, by omega, KN⟩
              case measure => simp [intOf]; omega
            · rw [X4.dead] at DD
              have AR2 := Lib.hid (arm_d D4 (-1) (by omega))
              rw [X4.arm (-1)] at AR2
              have HX := Lib.hid X4
              clear P3 D4 o4 X4 HO
              go_wp2_with fail
              refine DD.out.mono ?_
              rintro e w5 ⟨rfl, rfl⟩
              clear DD
              go_wp2_with fail
              refine AR2.out.mono ?_
              rintro e w6 ⟨rfl, d6, o6⟩
              have O6 := Lib.hid (O4.out.trans o6)
              have CR := Lib.hid (crash_d d6 (O6.out.up (Fb_up (Nat.le_refl _))) _ ks (KA.out w6 (O6.out.fb (Nat.le_refl _))) nm)
              have KC := kp_crash HX.out HC.out HF.out ks nm
              generalize crashD d4 ks nm = d7 at *
              clear AR2 d6 o6 O4 HX
              rcases KC with KC | KC
              · by_cases hxt : X = t
                · subst hxt
                  have HK7 := Lib.hid KC
                  clear KC
                  go_wp2_with fail
                  refine CR.out.mono ?_
                  rintro e w7 ⟨rfl, d7', o7⟩
                  have O7 := Lib.hid (O6.out.trans o7)
                  have HD7 := Lib.hid d7'
                  have L7 := Lib.hid (loadk_some (HG.out.next (O7.out.fb (Nat.le_refl _))) d7' (t := X) (by omega) HK7.out)
                  clear CR d7' o7 O6
                  go_wp2_with fail
                  refine L7.out.mono ?_
                  rintro e w8 ⟨rfl, hb8⟩
                  have KN : Hid (LoopK w X true (w.heap.size + 2) w8) := Lib.hid ⟨_, HK7.out, HD7.out.below hb8, O7.out.trans (Oth.of_below hb8)⟩
                  clear L7 hb8 HK7 HD7 O7
                  go_wp2
                  go_roundw
                  case rel => exact ⟨i + 1, X, true, by omega, by omega, rfl, rfl, by go_num, by omega, KN⟩
                  case measure => simp [intOf]; omega
                · have hne := bytes_ne hxt
                  have HK7 := Lib.hid KC
                  clear KC
                  go_wp2_with fail
                  refine CR.out.mono ?_
                  rintro e w7 ⟨rfl, d7', o7⟩
                  have O7 := Lib.hid (O6.out.trans o7)
                  have HD7 := Lib.hid d7'
                  have L7 := Lib.hid (loadk_some (HG.out.next (O7.out.fb (Nat.le_refl _))) d7' (t := X) (by omega) HK7.out)
                  clear CR d7' o7 O6
                  go_wp2_with fail
                  refine L7.out.mono ?_
                  rintro e w8 ⟨rfl, hb8⟩
                  have KN : Hid (LoopK w X true (w.heap.size + 2) w8) := Lib.hid ⟨_, HK7.out, HD7.out.below hb8, O7.out.trans (Oth.of_below hb8)⟩
                  clear L7 hb8 HK7 HD7 O7
                  go_wp2
                  go_roundw
                  case rel => exact ⟨i + 1, X, true, by omega, by omega, rfl, rfl, by go_num, by omega, KN⟩
                  case measure => simp [intOf]; omega
              · skip
                have HK7 := Lib.hid KC
                clear KC
                go_wp2_with fail
                refine CR.out.mono ?_
                rintro e w7 ⟨rfl, d7', o7⟩
                have O7 := Lib.hid (O6.out.trans o7)
                have HD7 := Lib.hid d7'
                have L7 := Lib.hid (loadk_some (HG.out.next (O7.out.fb (Nat.le_refl _))) d7' (t := t) (by omega) HK7.out)
                clear CR d7' o7 O6
                go_wp2_with fail
                refine L7.out.mono ?_
                rintro e w8 ⟨rfl, hb8⟩
                have KN : Hid (LoopK w t true (w.heap.size + 2) w8) := Lib.hid ⟨_, HK7.out, HD7.out.below hb8, O7.out.trans (Oth.of_below hb8)⟩
                clear L7 hb8 HK7 HD7 O7
                go_wp2
                go_roundw
                case rel => exact ⟨i + 1, t, true, by omega, by omega, rfl, rfl, by go_num, by omega, KN⟩
                case measure => simp [intOf]; omega
      · obtain ⟨d, K, D, O⟩ := HK.out
        have HO := Lib.hid O
        clear HK K0 K D O TA AA TM AM
        by_cases hl2 : i < ts.length
        · have g1 : decide ((i : Int) < (ts.length : Int)) = true := by simp; omega
          have g2 : decide ((i : Int) < 12) = false := by simp; omega
          go_wp2
          go_ret
          exact ⟨rfl, HO.out.fb (Nat.le_refl _)⟩
        · have g1 : decide ((i : Int) < (ts.length : Int)) = false := by simp; omega
          go_wp2
          go_ret
          exact ⟨rfl, HO.out.fb (Nat.le_refl _)⟩
end Go.Proofs.YtdpplnjnkckocaaGreatDoor
