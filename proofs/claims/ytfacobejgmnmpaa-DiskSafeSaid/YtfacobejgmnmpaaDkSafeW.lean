/-
  THE WALK of the law DiskSafe: whatever the texts, the acts, the numbers and the flag, it returns true and writes to nothing that was there.
-/
import Derived.Test.YtfacobejgmnmpaaDkSafeM
import Derived.Test.YtfacobejgmnmpaaDkSafeO
import Derived.Test.YtfacobejgmnmpaaOrdC
namespace Go.Proofs.Ytfacobejgmnmpaa
open Go.RowKit Go.Maps

abbrev sM : ByteArray := ⟨#[109, 105, 110, 101]⟩
theorem sf1 {fs : Nat → Nm × Nm} {b : Nat} {t : ByteArray} (ht : t.size ≤ 200) : appE (RN [] [] fs) sM t = 0 ∧ appD (RN [] [] fs) sM t b = RN [(nM, b)] [] (upd fs b (t.data.toList, [])) := by
  have ok : okN sM = true := by decide
  have hs : sM.data.toList = nM := rfl
  have hr : roomE (RN [] [] fs) nM t.size = 0 := by
    unfold roomE
    rw [if_neg (by simp [RN])]
    have hu : usedD (RN [] [] fs) = 0 := by simp [usedD, RN]
    have hh : hasL (RN [] [] fs) nM = 0 := by simp [hasL, RN, getD]
    rw [hu, hh, if_neg (by simp [RN]; omega), if_neg (by omega)]
  unfold appE appD
  rw [hs, hr, ok]
  refine ⟨by simp [RN], ?_⟩
  simp [RN, decD, wrD, getD, newF, putD, delD, ins]
theorem sf2 {sf : Dir} {fs : Nat → Nm × Nm} {b : Nat} : synE (RN [(nM, b)] sf fs) sM = 0 ∧ synD (RN [(nM, b)] sf fs) sM = RN [(nM, b)] sf (upd fs b ((fs b).1, (fs b).1)) := by
  constructor
  · simp [synE, RN, findE, getD]
  · simp [synD, RN, findV, getD, synF, decD]
theorem sf3 {fs : Nat → Nm × Nm} {b : Nat} {F : Nm} (h : fs b = (F, F)) (hF : F.length ≤ 200) : Sf (RN [(nM, b)] [(nM, b)] fs) b F 0 :=
  ⟨rfl, by show (-1 : Int) < 0; omega, rfl, rfl, rfl, fun n hn => by simp [RN] at hn; exact hn, h, by simp [RN], fun n c hn => by
    simp [RN] at hn
    simp only [RN]
    rw [hn.2, h]; simp only; omega⟩
def LoopS (w : World) (F : Nm) (Bd : Nat) (k : Nat) (wr : World) : Prop := ∃ b d, Sf d b F k ∧ Dsk (Fb w.heap.size) wr Bd d 1000 ∧ Oth (Fb w.heap.size) w wr
theorem loop_next {w wr w' : World} {F : Nm} {Bd k b : Nat} {d' : DS} (hs : Sf d' b F k) (ho : Oth (Fb w.heap.size) w wr) (hp : OpPost (Fb w.heap.size) wr Bd d' 1000 w') : LoopS w F Bd k w' := ⟨b, d', hs, hp.1, ho.trans hp.2⟩
theorem Oth.of_drew {Fp : Nat → Prop} {w w' : World} (h : Oth Fp w.drew w') : Oth Fp w w' := ⟨h.os, h.tape, h.output, h.size, h.block⟩
theorem ba_ext {a : ByteArray} {l : List UInt8} (h : a.data.toList = l) : a = ⟨l.toArray⟩ := by
  apply WideShapes.bytes_inj
  rw [h]
theorem name_ne {a : ByteArray} (h : ¬ a = sM) : a.data.toList ≠ nM := fun e => h (by rw [ba_ext e])
theorem name_neB {a : ByteArray} (h : ¬ a = sM) : (a.toList == [109, 105, 110, 101]) = false := by
  rw [Lib.toList_data]
  exact beq_eq_false_iff_ne.2 (name_ne h)
theorem drew_dsk {Fp : Nat → Prop} {w : World} {Bd : Nat} {d : DS} {m : Nat} (h : Dsk Fp w Bd d m) : Dsk Fp w.drew Bd d m := by
  obtain ⟨mn, ms, vs, hne, hD⟩ := h
  exact ⟨mn, ms, vs, hne, hD.kept (fun _ _ _ => rfl)⟩
theorem nar_dsk {Fp : Nat → Prop} {w : World} {Bd : Nat} {d : DS} {m : Nat} (h : Dsk Fp w Bd d m) (b : Nat) : Dsk (nar Fp w.heap.size b) w Bd d m := by
  obtain ⟨mn, ms, vs, hne, hD⟩ := h
  exact ⟨mn, ms, vs, hne, hD.nar b⟩
set_option maxHeartbeats 16000000 in
set_option maxRecDepth 100000 in
theorem safe_walk (f0 m0 : ByteArray) (p : Option Addr) (cap : Nat) (l : List Ac) (kv : Value) (ks : List Int) (nm : Bool) (w : World) (hf0 : f0.size ≤ maxLen) (hm0 : m0.size ≤ maxLen) (hA : AcAt w p l) (hl : l.length ≤ maxLen) (hok : ∀ t ∈ l, t.ok)
    (hK : ∀ w', Below w.heap.size w w' → KeepsAt (Fb w.heap.size) w' kv ks) :
    Calls Try.prog 4 #[.string f0, .string m0, .slice p l.length cap, kv, .bool nm] w fun e w' => e = .returned (.bool true) ∧ Below w.heap.size w w' := by
  have C1 := Lib.hid (fun w' => cut_any f0 200 w' hf0 (by omega))
  have C2 := Lib.hid (fun w' => cut_any m0 200 w' hm0 (by omega))
  have lf := cutB_size f0 200
  have lm := cutB_size m0 200
  generalize cutB f0 200 = f at *
  generalize cutB m0 200 = mo at *
  have NC := Lib.hid (new_d (Fp := Fb w.heap.size) w (Fb_up (Nat.le_refl _)) 100000 (by omega) 1000 (by omega))
  have HA := Lib.hid (fun wr (hb : Below w.heap.size w wr) => hA.below hb)
  have HOK := Lib.hid hok
  have HK := Lib.hid hK
  unfold maxLen at hl
  clear hf0 hm0 hA hok hK
  go_enter Try.func4, Try.ntmps4
  go_wp2_with fail
  refine (C1.out _).mono ?_
  rintro e w1 ⟨rfl, rfl⟩
  go_wp2_with fail
  refine (C2.out _).mono ?_
  rintro e w2 ⟨rfl, rfl⟩
  clear C1 C2
  go_wp2_with fail
  refine NC.out.mono ?_
  rintro e w3 ⟨rfl, d1, o1⟩
  have d1' : Dsk (Fb w.heap.size) w3 (w.heap.size + 2) (RN [] [] (fun _ => ([], []))) 1000 := d1
  have P1 := Lib.hid (append_d d1' (o1.up (Fb_up (Nat.le_refl _))) sM f (by decide) (by omega) (by omega))
  rw [(sf1 (b := 0) lf).1] at P1
  have O1 := Lib.hid o1
  clear NC d1 d1' o1
  go_wp2_with fail
  refine P1.out.mono ?_
  rintro e w4 ⟨rfl, b, _, d2, o2⟩
  rw [(sf1 lf).2] at d2
  have O2 := Lib.hid (O1.out.trans o2)
  have P2 := Lib.hid (sync_d d2 sM (by decide))
  rw [sf2.1] at P2
  clear P1 d2 o2 O1
  go_wp2_with fail
  refine P2.out.mono ?_
  rintro e w5 ⟨rfl, d3, o3⟩
  rw [sf2.2, upd_same, upd_upd] at d3
  have O3 := Lib.hid (O2.out.trans o3)
  have P3 := Lib.hid (sdir_d d3 (O3.out.up (Fb_up (Nat.le_refl _))))
  rw [rn5.1] at P3
  clear P2 d3 o3 O2
  go_wp2_with fail
  refine P3.out.mono ?_
  rintro e w6 ⟨rfl, d4, o4⟩
  rw [rn5.2] at d4
  have O4 := O3.out.trans o4
  have K0 : Hid (LoopS w f.data.toList (w.heap.size + 2) 0 w6) := Lib.hid ⟨b, _, sf3 (upd_same _ _ _) (by simpa using lf), d4, O4⟩
  clear P3 d4 o4 O3 O4
  go_wp2_with fail
  go_loopw [12] (fun iv wr => ∃ (i : Nat), i ≤ 30 ∧ i ≤ l.length ∧ iv = .int .i64 i ∧ Hid (LoopS w f.data.toList (w.heap.size + 2) i wr)) (fun iv _ => 30 - (intOf iv).toNat)
  case atStart => exact ⟨0, by omega, by omega, rfl, K0⟩
  case round =>
    obtain ⟨i, hi30, hil, rfl, HL⟩ := hrel
    by_cases hgo : i < l.length ∧ i < 30
    · obtain ⟨hg1, hg2⟩ := hgo
      have g1 : decide ((i : Int) < (l.length : Int)) = true := by simp; omega
      have g2 : decide ((i : Int) < 30) = true := by simp; omega
      obtain ⟨bb, d, S, D, O⟩ := HL.out
      have HO := Lib.hid O
      have HS := Lib.hid S
      have HD := Lib.hid D
      have HUP := Lib.hid (O.up (Fb_up (w := w) (Nat.le_refl _)))
      obtain ⟨a, rfl, hab, c0, c1, c2, c3, c4, c5, c6, c7⟩ := HA.out wr (O.fb (Nat.le_refl _)) i hg1
      have TOK := Lib.hid (HOK.out _ (List.getElem_mem hg1))
      generalize l[i] = t at *
      obtain ⟨tk, tn, tt, ts, tz, tat, tkp, tkl, tkc, tnm⟩ := t
      simp only at c0 c1 c2 c3 c4 c5 c6 c7
      have HDA : Hid (Dsk (Fb w.heap.size) (wr.alloc (.cells #[.int .i64 tk, .string tn, .string tt, .string ts, .int .i64 tz, .int .i64 tat, .slice tkp tkl tkc, .bool tnm] 35)) (w.heap.size + 2) d 1000) := Lib.hid (D.below ((Below.refl _ wr).alloc (Nat.le_refl _) _))
      have HOA : Hid (Oth (Fb w.heap.size) w (wr.alloc (.cells #[.int .i64 tk, .string tn, .string tt, .string ts, .int .i64 tz, .int .i64 tat, .slice tkp tkl tkc, .bool tnm] 35))) := Lib.hid (O.alloc _)
      have hz1 : tn.size ≤ 9223372036854775807 := TOK.out.2.2.1
      have hz2 : tt.size ≤ 9223372036854775807 := TOK.out.2.2.2.1
      clear D O S HL K0
      by_cases hn : tn = sM
      · subst hn
        go_wp2
        go_roundw
        case rel => exact ⟨i + 1, by omega, by omega, by go_num, Lib.hid ⟨bb, d, HS.out.more, HDA.out, HOA.out⟩⟩
        case measure => simp [intOf]; omega
      · have nb := name_neB hn
        by_cases ht : tt = sM
        · subst ht
          clear hn
          go_wp2
          go_roundw
          case rel => exact ⟨i + 1, by omega, by omega, by go_num, Lib.hid ⟨bb, d, HS.out.more, HDA.out, HOA.out⟩⟩
          case measure => simp [intOf]; omega
        · have tb := name_neB ht
          have HN := Lib.hid (name_ne hn)
          have HT := Lib.hid (name_ne ht)
          clear hn ht
          by_cases hk1 : tk = 1
          · subst hk1
            have CT := Lib.hid (fun w' => cut_any ts 100 w' TOK.out.2.2.2.2 (by omega))
            have lt := cutB_size ts 100
            generalize cutB ts 100 = tc at *
            have hsz : (wr.alloc (.cells #[.int .i64 1, .string tn, .string tt, .string ts, .int .i64 tz, .int .i64 tat, .slice tkp tkl tkc, .bool tnm] 35)).heap.size = wr.heap.size + 1 := by simp
            have b1 : (wr.alloc (.cells #[.int .i64 1, .string tn, .string tt, .string ts, .int .i64 tz, .int .i64 tat, .slice tkp tkl tkc, .bool tnm] 35)).cell? ⟨wr.heap.size, 1, none⟩ = some (.string tn) := by simp [go_sem]
            have b3 : (wr.alloc (.cells #[.int .i64 1, .string tn, .string tt, .string ts, .int .i64 tz, .int .i64 tat, .slice tkp tkl tkc, .bool tnm] 35)).cell? ⟨wr.heap.size, 3, none⟩ = some (.string ts) := by simp [go_sem]
            have DN : Dsk (nar (Fb w.heap.size) wr.heap.size (wr.heap.size + 1)) (wr.alloc (.cells #[.int .i64 1, .string tn, .string tt, .string ts, .int .i64 tz, .int .i64 tat, .slice tkp tkl tkc, .bool tnm] 35)) (w.heap.size + 2) d 1000 := (nar_dsk HD.out (wr.heap.size + 1)).below ((Below.refl _ wr).alloc (Nat.le_refl _) _)
            have hup : ∀ j, wr.heap.size ≤ j → Fb w.heap.size j := HUP.out
            have hno : ¬ nar (Fb w.heap.size) wr.heap.size (wr.heap.size + 1) wr.heap.size := by
              rintro (h | h)
              · exact absurd h.2 (Nat.lt_irrefl _)
              · exact absurd h (Nat.not_succ_le_self _)
            have PA : Hid (∀ W : World, Dsk (nar (Fb w.heap.size) wr.heap.size (wr.heap.size + 1)) W (w.heap.size + 2) d 1000 → wr.heap.size + 1 ≤ W.heap.size → Calls Try.prog 14 #[.pointer (some ⟨w.heap.size + 2, 0, none⟩), .string tn, .string tc] W fun e w' => e = .returned (.int .i64 (appE d tn tc)) ∧ ∃ b, ¬ d.Has b ∧ OpPost (nar (Fb w.heap.size) wr.heap.size (wr.heap.size + 1)) W (w.heap.size + 2) (appD d tn tc b) 1000 w') := Lib.hid (fun W hW hz => append_d hW (nar_up hz) tn tc hz1 (by omega) (by omega))
            have HDN := Lib.hid DN
            have HNO := Lib.hid hno
            have HUQ := Lib.hid hup
            clear DN hno hup
            go_wp2_with fail
            refine wp_region_held_drew (S := fun w' => w'.cell? ⟨wr.heap.size, 1, none⟩ = some (.string tn) ∧ w'.cell? ⟨wr.heap.size, 3, none⟩ = some (.string ts)) (by kernel_rfl) (⟨b1, b3⟩) (fun hHeld => ?_)
            refine wpAnyH_take (i := 0) (oi := _) (v := ?_) rfl (by kernel_rfl) (by kernel_rfl) (by kernel_rfl) (fun _ _ _ h => h) (Or.inl ⟨by rfl, ?_⟩) (by assumption) ?_
            rotate_left
            · (intro w hSw; (try dsimp only at hSw); go_simp; try with_reducible rfl)
            try simp only [List.getElem_toArray, List.getElem_cons_zero, Act.put, List.setIfInBounds_toArray, List.set_cons_zero, List.set_cons_succ]
            refine wpAnyH_take (i := 1) (oi := _) (v := ?_) rfl (by kernel_rfl) (by kernel_rfl) (by kernel_rfl) (fun _ _ _ h => h) (Or.inl ⟨by rfl, ?_⟩) (by assumption) ?_
            rotate_left
            · (intro w hSw; (try dsimp only at hSw); go_simp; try with_reducible rfl)
            try simp only [List.getElem_toArray, List.getElem_cons_zero, List.getElem_cons_succ, Act.put, List.setIfInBounds_toArray, List.set_cons_zero, List.set_cons_succ]
            refine wpAnyH_take (i := 2) (oi := _) (v := ?_) rfl (by kernel_rfl) (by kernel_rfl) (by kernel_rfl) (fun _ _ _ h => h) (Or.inl ⟨by rfl, ?_⟩) (by assumption) ?_
            rotate_left
            · (intro w hSw; (try dsimp only at hSw); go_simp; try with_reducible rfl)
            try simp only [List.getElem_toArray, List.getElem_cons_zero, List.getElem_cons_succ, Act.put, List.setIfInBounds_toArray, List.set_cons_zero, List.set_cons_succ]
            refine wpAnyH_take (i := 3) (oi := _) (v := ?_) rfl (by kernel_rfl) (by kernel_rfl) (by kernel_rfl) (fun _ _ _ h => h) (Or.inl ⟨by rfl, ?_⟩) (by assumption) ?_
            rotate_left
            · (intro w hSw; (try dsimp only at hSw); go_simp; try with_reducible rfl)
            try simp only [List.getElem_toArray, List.getElem_cons_zero, List.getElem_cons_succ, Act.put, List.setIfInBounds_toArray, List.set_cons_zero, List.set_cons_succ]
            refine wpAnyH_take (i := 4) (oi := _) (v := ?_) rfl (by kernel_rfl) (by kernel_rfl) (by kernel_rfl) (fun _ _ _ h => h) (Or.inl ⟨by rfl, ?_⟩) (by assumption) ?_
            rotate_left
            · (intro w hSw; (try dsimp only at hSw); go_simp; try with_reducible rfl)
            try simp only [List.getElem_toArray, List.getElem_cons_zero, List.getElem_cons_succ, Act.put, List.setIfInBounds_toArray, List.set_cons_zero, List.set_cons_succ]
            refine wpAnyH_call (i := 5) (oi := _) (v := .string tc) rfl (by kernel_rfl) (by kernel_rfl) (by kernel_rfl) (fun _ _ _ h => h) (by rfl) 12 #[.string ts, .int .i64 100] (fun w => ?_) CT.out (by assumption) ?_
            · (go_simp; try with_reducible rfl)
            try simp only [List.getElem_toArray, List.getElem_cons_zero, List.getElem_cons_succ, Act.put, List.setIfInBounds_toArray, List.set_cons_zero, List.set_cons_succ]
            refine wpAnyH_ready (rs := [6]) (by kernel_rfl) (by simp) ?_
            refine AllReadyH.cons (o := _) rfl (fun K hK => ?_) AllReadyH.nil
            go_simp
            refine (PA.out _ (drew_dsk HDN.out) (by show wr.heap.size + 1 ≤ (wr.alloc _).heap.size; simp)).mono ?_
            rintro e w8 ⟨rfl, b', hb', hp, ho⟩
            have k1 := ho.cell (p := ⟨wr.heap.size, 1, none⟩) HNO.out hHeld.1
            have k3 := ho.cell (p := ⟨wr.heap.size, 3, none⟩) HNO.out hHeld.2
            have hp2 : OpPost (Fb w.heap.size) (wr.alloc (.cells #[.int .i64 1, .string tn, .string tt, .string ts, .int .i64 tz, .int .i64 tat, .slice tkp tkl tkc, .bool tnm] 35)) (w.heap.size + 2) (appD d tn tc b') 1000 w8 := ⟨hp.wider (fun j _ hj => nar_of HUQ.out (Nat.le_succ _) hj), (Oth.wide ho HUQ.out (Nat.le_succ _)).of_drew⟩
            have KN : Hid (LoopS w f.data.toList (w.heap.size + 2) (i + 1) w8) := Lib.hid (loop_next (HS.out.app HD.out.srt HN.out hb' lt) HOA.out hp2)
            clear hp ho hp2
            go_simp
            refine hK.out _ _ (⟨k1, k3⟩) (fun hHeld => ?_)
            clear hK K
            try simp only [List.getElem_toArray, List.getElem_cons_zero, List.getElem_cons_succ, Act.put, List.setIfInBounds_toArray, List.set_cons_zero, List.set_cons_succ]
            refine wpAnyH_done (by kernel_rfl) ?_ _
            go_wp2
            go_roundw
            case rel => exact ⟨i + 1, by omega, by omega, by go_num, KN⟩
            case measure => simp [intOf]; omega
          have q1 : (tk == 1) = false := by simpa using hk1
          have r1 : decide (tk = 1) = false := by simpa using hk1
          by_cases hk2 : tk = 2
          · subst hk2
            clear hk1
            have PP := Lib.hid (trunc_d HDA.out tn hz1 tz)
            go_wp2_with fail
            refine PP.out.mono ?_
            rintro e w8 ⟨rfl, hp⟩
            have KN : Hid (LoopS w f.data.toList (w.heap.size + 2) (i + 1) w8) := Lib.hid (loop_next (HS.out.tru HN.out tz) HOA.out hp)
            clear hp
            go_wp2
            go_roundw
            case rel => exact ⟨i + 1, by omega, by omega, by go_num, KN⟩
            case measure => simp [intOf]; omega
          have q2 : (tk == 2) = false := by simpa using hk2
          have r2 : decide (tk = 2) = false := by simpa using hk2
          by_cases hk3 : tk = 3
          · subst hk3
            clear hk1 hk2
            have PP := Lib.hid (sync_d HDA.out tn hz1)
            go_wp2_with fail
            refine PP.out.mono ?_
            rintro e w8 ⟨rfl, hp⟩
            have KN : Hid (LoopS w f.data.toList (w.heap.size + 2) (i + 1) w8) := Lib.hid (loop_next (HS.out.syn HN.out) HOA.out hp)
            clear hp
            go_wp2
            go_roundw
            case rel => exact ⟨i + 1, by omega, by omega, by go_num, KN⟩
            case measure => simp [intOf]; omega
          have q3 : (tk == 3) = false := by simpa using hk3
          have r3 : decide (tk = 3) = false := by simpa using hk3
          by_cases hk4 : tk = 4
          · subst hk4
            clear hk1 hk2 hk3
            have PP := Lib.hid (ren_d HDA.out tn tt hz1 hz2)
            go_wp2_with fail
            refine PP.out.mono ?_
            rintro e w8 ⟨rfl, hp⟩
            have KN : Hid (LoopS w f.data.toList (w.heap.size + 2) (i + 1) w8) := Lib.hid (loop_next (HS.out.ren HDA.out.srt HN.out HT.out) HOA.out hp)
            clear hp
            go_wp2
            go_roundw
            case rel => exact ⟨i + 1, by omega, by omega, by go_num, KN⟩
            case measure => simp [intOf]; omega
          have q4 : (tk == 4) = false := by simpa using hk4
          have r4 : decide (tk = 4) = false := by simpa using hk4
          by_cases hk5 : tk = 5
          · subst hk5
            clear hk1 hk2 hk3 hk4
            have PP := Lib.hid (rem_d HDA.out tn hz1)
            go_wp2_with fail
            refine PP.out.mono ?_
            rintro e w8 ⟨rfl, hp⟩
            have KN : Hid (LoopS w f.data.toList (w.heap.size + 2) (i + 1) w8) := Lib.hid (loop_next (HS.out.rem HDA.out.srt HN.out) HOA.out hp)
            clear hp
            go_wp2
            go_roundw
            case rel => exact ⟨i + 1, by omega, by omega, by go_num, KN⟩
            case measure => simp [intOf]; omega
          have q5 : (tk == 5) = false := by simpa using hk5
          have r5 : decide (tk = 5) = false := by simpa using hk5
          by_cases hk6 : tk = 6
          · subst hk6
            clear hk1 hk2 hk3 hk4 hk5
            have PP := Lib.hid (sdir_d HDA.out (HOA.out.up (Fb_up (Nat.le_refl _))))
            go_wp2_with fail
            refine PP.out.mono ?_
            rintro e w8 ⟨rfl, hp⟩
            have KN : Hid (LoopS w f.data.toList (w.heap.size + 2) (i + 1) w8) := Lib.hid (loop_next (HS.out.sdir) HOA.out hp)
            clear hp
            go_wp2
            go_roundw
            case rel => exact ⟨i + 1, by omega, by omega, by go_num, KN⟩
            case measure => simp [intOf]; omega
          have q6 : (tk == 6) = false := by simpa using hk6
          have r6 : decide (tk = 6) = false := by simpa using hk6
          clear hk1 hk2 hk3 hk4 hk5 hk6
          go_wp2
          go_roundw
          case rel => exact ⟨i + 1, by omega, by omega, by go_num, Lib.hid ⟨bb, d, HS.out.more, HDA.out, HOA.out⟩⟩
          case measure => simp [intOf]; omega
    · obtain ⟨b, d, S, D, O⟩ := HL.out
      have HO := Lib.hid O
      have hFl : f.data.toList.length ≤ 200 := by simpa using lf
      have q1 := fun c => S.last hi30 hFl lm c
      have P4 := Lib.hid (append_d D (O.up (Fb_up (w := w) (Nat.le_refl _))) sM mo (by decide) (by omega) (by omega))
      rw [(q1 0).1] at P4
      have CR := fun M => S.crash M ks nm
      have HCR := Lib.hid (CR mo.data.toList)
      clear CR HL K0 D O S
      have gx : (i < l.length ∧ i = 30) ∨ ¬ i < l.length := by omega
      clear hgo
      rcases gx with ⟨g1, g2⟩ | g1
      all_goals
        go_wp2_with fail
        refine P4.out.mono ?_
        rintro e w7 ⟨rfl, c, _, d5, o5⟩
        rw [(q1 c).2] at d5
        have O5 := Lib.hid (HO.out.trans o5)
        have P5 := Lib.hid (crash_d d5 (O5.out.up (Fb_up (Nat.le_refl _))) kv ks (HK.out _ (O5.out.fb (Nat.le_refl _))) nm)
        clear P4 d5 o5 HO
        go_wp2_with fail
        refine P5.out.mono ?_
        rintro e w8 ⟨rfl, d6, o6⟩
        have O6 := Lib.hid (O5.out.trans o6)
        obtain ⟨G, hG, hd, hg, hf⟩ := HCR.out
        obtain ⟨n1, n2, n3⟩ := lv_len hG
        have hml : mo.data.toList.length = mo.size := by simp
        have hfl : f.data.toList.length = f.size := by simp
        have rd := read_lv hd hg hf (by omega)
        have P6 := Lib.hid (read_d d6 sM (by decide) 0 1000 (by omega) (by omega))
        rw [rd.1, rd.2] at P6
        clear P5 d6 o6 O5 rd hd hg hf hG HCR
        obtain ⟨X, hX⟩ : ∃ X : ByteArray, X = ⟨G.toArray⟩ := ⟨_, rfl⟩
        rw [← hX] at P6
        have hXs : X.size = G.length := by rw [hX]; show G.toArray.size = _; simp
        have x1 : (f.size : Int) ≤ (X.size : Int) := by omega
        have x2 : (X.size : Int) ≤ (f.size : Int) + (mo.size : Int) := by omega
        have x3 : (f ++ mo).extract 0 X.size = X := by
          apply WideShapes.bytes_inj
          rw [hXs, hX]
          simp only [ByteArray.data_extract, ByteArray.data_append, Array.toList_extract]
          rw [List.extract_eq_take_drop]
          simp only [Nat.sub_zero, List.drop_zero]
          rw [show (f.data ++ mo.data).toList = f.data.toList ++ mo.data.toList by simp, n3]
        have HX3 := Lib.hid x3
        have x4 : f.size + mo.size ≤ 400 := by omega
        have x5 : X.size ≤ f.size + mo.size := by omega
        have x6 : f.size ≤ X.size := by omega
        clear n1 n2 n3 hX hXs x3 hml hfl
        go_wp2_with fail
        refine P6.out.mono ?_
        rintro e w9 ⟨rfl, hb9⟩
        have O9 := Lib.hid (O6.out.trans (Oth.of_below hb9))
        clear P6 hb9 O6
        go_wp2_with fail
        refine (awake_any _).mono ?_
        rintro e wa ⟨rfl, hba⟩
        have OA := Lib.hid (O9.out.trans (Oth.of_below hba))
        clear hba O9
        have x3 := HX3.out
        go_wp2_with fail
        go_ret
        exact ⟨by simp, OA.out.fb (Nat.le_refl _)⟩
end Go.Proofs.Ytfacobejgmnmpaa
