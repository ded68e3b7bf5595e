/-
  THE WALK of the law DiskRenamed: whatever the two texts and the two flags, it returns true and writes to nothing that was there.
-/
import Derived.Test.YtfacobejgmnmpaaDkPut
import Derived.Test.YtfacobejgmnmpaaDkAw
import Derived.Test.YtfacobejgmnmpaaCutA
namespace Go.Proofs.Ytfacobejgmnmpaa
open Go.RowKit Go.Maps

variable {Fp : Nat → Prop} {w : World} {Bd : Nat} {d : DS} {m : Nat}
theorem put_d (h : Dsk Fp w Bd d m) (hF : Up Fp w) (s t : ByteArray) (hs : okN s = true) (ht : t.size ≤ 1048576) (h1 : d.now.length < m) (h2 : d.safe.length < m) :
    Calls Try.prog 22 #[.pointer (some ⟨Bd, 0, none⟩), .string s, .string t] w fun e w' => e = .returned (.int .i64 0) ∧ ∃ b, ¬ d.Has b ∧ OpPost Fp w Bd (putF d s.data.toList b t.data.toList) m w' := by
  obtain ⟨a, b, c, hne, hD⟩ := h
  exact put_dv hD hne hF s t hs ht h1 h2
/-- A crash whose numbers are two that the text spells out. -/
theorem crash_lit2 (h : Dsk Fp w Bd d m) (hF : Up Fp w) (k l : Int) (hk : k ≤ 9223372036854775807) (hl : l ≤ 9223372036854775807) (nm : Bool) :
    Calls Try.prog 20 #[.pointer (some ⟨Bd, 0, none⟩), .slice (some ⟨w.heap.size, 0, none⟩) 2 2, .bool nm] (w.alloc (.cells #[.int .i64 k, .int .i64 l] 3)) fun e w' => e = .returned (.tuple #[]) ∧ OpPost Fp w Bd (crashD d [k, l] nm) m w' := by
  obtain ⟨a, b, c, hne, hD⟩ := h
  have hD1 := (hD.nar (w.heap.size + 1)).alloc (.cells #[.int .i64 k, .int .i64 l] 3)
  have hup : ∀ j, w.heap.size ≤ j → Fp j := hF
  have hK : KeepsAt (nar Fp w.heap.size (w.heap.size + 1)) (w.alloc (.cells #[.int .i64 k, .int .i64 l] 3)) (.slice (some ⟨w.heap.size, 0, none⟩) 2 2) [k, l] := by
    refine ⟨_, _, rfl, by simp, by simp; exact ⟨hk, hl⟩, ?_⟩
    intro i hi
    have hi2 : i < 2 := by simpa using hi
    have hn : ¬ nar Fp w.heap.size (w.heap.size + 1) w.heap.size := by
      rintro (h | h)
      · exact absurd h.2 (Nat.lt_irrefl _)
      · exact absurd h (Nat.not_succ_le_self _)
    match i, hi2 with
    | 0, _ => exact ⟨_, rfl, hn, by simp [go_sem, Addr.add]⟩
    | 1, _ => exact ⟨_, rfl, hn, by simp [go_sem, Addr.add]⟩
  refine (crash_d ⟨a, b, c, hne, hD1⟩ (nar_up (by simp)) _ [k, l] hK nm).mono ?_
  rintro e w' ⟨rfl, ⟨a', b', c', hne', hD'⟩, hO⟩
  refine ⟨rfl, ⟨a', b', c', hne', hD'.wider (fun j _ hj => nar_of hup (Nat.le_succ _) hj)⟩, ?_⟩
  exact ((Oth.refl Fp w).alloc _).trans (hO.wide hup (Nat.le_succ _))
def RN (nw sf : Dir) (fs : Nat → Nm × Nm) : DS := { now := nw, safe := sf, fs := fs, quota := 100000, left := -1, dead := false }
theorem okN_b : okN ⟨#[98]⟩ = true := rfl
theorem rn1 (o : Nm) (B : Nat) : putF (newDS 100000) [97] B o = RN [([97], B)] [([97], B)] (upd (fun _ => ([], [])) B (o, o)) := rfl
theorem rn2 {fs : Nat → Nm × Nm} {B C : Nat} {n : ByteArray} (hn : n.size ≤ 100) (hB : (fs B).1.length ≤ 100) :
    appE (RN [([97], B)] [([97], B)] fs) ⟨#[98]⟩ n = 0 ∧ appD (RN [([97], B)] [([97], B)] fs) ⟨#[98]⟩ n C = RN [([97], B), ([98], C)] [([97], B)] (upd fs C (n.data.toList, [])) := by
  have hr : roomE (RN [([97], B)] [([97], B)] fs) [98] n.size = 0 := by
    unfold roomE
    rw [if_neg (by simp [RN])]
    have hu : usedD (RN [([97], B)] [([97], B)] fs) = (fs B).1.length := by simp [usedD, RN, lenNow]
    have hh : hasL (RN [([97], B)] [([97], B)] fs) [98] = 0 := by simp [hasL, RN, getD]
    rw [hu, hh, if_neg (by simp [RN]; omega), if_neg (by omega)]
  have hs : (⟨#[98]⟩ : ByteArray).data.toList = [98] := rfl
  unfold appE appD
  rw [hs, hr, okN_b]
  refine ⟨by simp [RN], ?_⟩
  simp [RN, decD, wrD, getD, newF, putD, delD, ins]
  decide
theorem rn3 {nw sf : Dir} {fs : Nat → Nm × Nm} {C : Nat} (h : getD nw [98] = some C) : synE (RN nw sf fs) ⟨#[98]⟩ = 0 ∧ synD (RN nw sf fs) ⟨#[98]⟩ = RN nw sf (upd fs C ((fs C).1, (fs C).1)) := by
  constructor
  · simp [synE, RN, findE, h]
  · simp [synD, RN, findV, h, synF, decD]
theorem rn4 {sf : Dir} {fs : Nat → Nm × Nm} {B C : Nat} : renE (RN [([97], B), ([98], C)] sf fs) ⟨#[98]⟩ ⟨#[97]⟩ = 0 ∧ renD (RN [([97], B), ([98], C)] sf fs) ⟨#[98]⟩ ⟨#[97]⟩ = RN [([97], C)] sf fs := by
  constructor
  · simp [renE, RN, findE, getD, okN_a]
  · simp [renD, RN, findV, getD, okN_a, renF, decD, putD, delD, ins]
theorem rn5 {nw sf : Dir} {fs : Nat → Nm × Nm} : sdE (RN nw sf fs) = 0 ∧ sdD (RN nw sf fs) = RN nw nw fs := by
  constructor
  · simp [sdE, RN]
  · simp [sdD, RN, sdirF, decD]
theorem crN_same (F : Nm) (k : Nat) : crN F F k = F := by
  unfold crN
  rw [if_pos (by simp)]
  simp
theorem rn6 {B C : Nat} {fs : Nat → Nm × Nm} {F : Nm} (kp : Bool) {X : Nat} (hX : X = if kp then C else B) (h : fs X = (F, F)) : crashD (RN [([97], C)] [([97], B)] fs) [5, 5] kp = RN [([97], X)] [([97], X)] (upd fs X (F, F)) := by
  cases kp
  · have e : X = B := hX
    subst e
    simp [crashD, RN, crTo, crF, h, crN_same]
  · have e : X = C := hX
    subst e
    simp [crashD, RN, crTo, crF, h, crN_same]
theorem rn7 {X : Nat} {fs : Nat → Nm × Nm} {t : ByteArray} (ht : t.size ≤ 100) (h : (fs X).1 = t.data.toList) : readS (RN [([97], X)] [([97], X)] fs) ⟨#[97]⟩ 0 1000 = t ∧ readE (RN [([97], X)] [([97], X)] fs) ⟨#[97]⟩ 0 1000 = 0 := by
  have hl : t.data.toList.length = t.size := by simp
  constructor
  · simp only [readS, RN, findV, getD]
    simp only [Bool.false_eq_true, if_false, List.find?_cons, beq_self_eq_true, Option.map_some, h]
    rw [if_neg (by omega)]
    simp only [Int.toNat_zero, List.drop_zero]
    rw [List.take_of_length_le (by rw [hl]; show t.size ≤ 1000; omega)]
  · simp [readE, RN, findE, getD]
set_option maxHeartbeats 8000000 in
set_option maxRecDepth 100000 in
theorem renamed_walk (a b : ByteArray) (sy kp : Bool) (ha : a.size ≤ maxLen) (hb : b.size ≤ maxLen) (w : World) :
    Calls Try.prog 5 #[.string a, .string b, .bool sy, .bool kp] w fun e w' => e = .returned (.bool true) ∧ Below w.heap.size w w' := by
  have C1 := Lib.hid (fun w' => cut_any a 100 w' ha (by omega))
  have C2 := Lib.hid (fun w' => cut_any b 100 w' hb (by omega))
  have la := cutB_size a 100
  have lb := cutB_size b 100
  generalize cutB a 100 = o at *
  generalize cutB b 100 = n at *
  have NC := Lib.hid (new_d (Fp := Fb w.heap.size) w (Fb_up (Nat.le_refl _)) 100000 (by omega) 1000 (by omega))
  clear ha hb
  go_enter Try.func5, Try.ntmps5
  go_wp2_with fail
  refine (C1.out _).mono ?_
  rintro e w1 ⟨rfl, rfl⟩
  go_wp2_with fail
  refine (C2.out _).mono ?_
  rintro e w2 ⟨rfl, rfl⟩
  clear C1 C2
  go_wp2_with fail
  refine NC.out.mono ?_
  rintro e w3 ⟨rfl, d1, o1⟩
  have P1 := Lib.hid (put_d d1 (o1.up (Fb_up (Nat.le_refl _))) ⟨#[97]⟩ o okN_a (by omega) (by decide) (by decide))
  have O1 := Lib.hid o1
  clear NC d1 o1
  go_wp2_with fail
  refine P1.out.mono ?_
  rintro e w4 ⟨rfl, B, _, d2, o2⟩
  rw [rn1] at d2
  have O2 := Lib.hid (O1.out.trans o2)
  have q2 := fun C => rn2 (fs := upd (fun _ => ([], [])) B (o.data.toList, o.data.toList)) (B := B) (C := C) lb (by rw [upd_same]; simpa using la)
  have P2 := Lib.hid (append_d d2 (O2.out.up (Fb_up (Nat.le_refl _))) ⟨#[98]⟩ n (by decide) (by omega) (by omega))
  rw [(q2 0).1] at P2
  clear P1 d2 o2 O1
  go_wp2_with fail
  refine P2.out.mono ?_
  rintro e w5 ⟨rfl, C, hC, d3, o3⟩
  rw [(q2 C).2] at d3
  have hCB : C ≠ B := fun e => hC ⟨[97], .inl (by rw [e]; simp [RN])⟩
  have O3 := Lib.hid (O2.out.trans o3)
  have q3 := rn3 (nw := [([97], B), ([98], C)]) (sf := [([97], B)]) (fs := upd (upd (fun _ => ([], [])) B (o.data.toList, o.data.toList)) C (n.data.toList, [])) (C := C) rfl
  rw [upd_same, upd_upd] at q3
  have P3 := Lib.hid (sync_d d3 ⟨#[98]⟩ (by decide))
  rw [q3.1] at P3
  clear P2 d3 o3 O2 q2 hC
  go_wp2_with fail
  refine P3.out.mono ?_
  rintro e w6 ⟨rfl, d4, o4⟩
  rw [q3.2] at d4
  have hfC : (upd (upd (fun _ => (([] : Nm), ([] : Nm))) B (o.data.toList, o.data.toList)) C (n.data.toList, n.data.toList)) C = (n.data.toList, n.data.toList) := upd_same _ _ _
  have hfB : (upd (upd (fun _ => (([] : Nm), ([] : Nm))) B (o.data.toList, o.data.toList)) C (n.data.toList, n.data.toList)) B = (o.data.toList, o.data.toList) := by rw [upd_other _ _ (Ne.symm hCB), upd_same]
  clear q3 P3
  generalize (upd (upd (fun _ => (([] : Nm), ([] : Nm))) B (o.data.toList, o.data.toList)) C (n.data.toList, n.data.toList)) = fs at *
  have FC := Lib.hid hfC
  have FB := Lib.hid hfB
  have O4 := Lib.hid (O3.out.trans o4)
  have P4 := Lib.hid (ren_d d4 ⟨#[98]⟩ ⟨#[97]⟩ (by decide) (by decide))
  rw [rn4.1] at P4
  clear d4 o4 O3 hfC hfB hCB
  go_wp2_with fail
  refine P4.out.mono ?_
  rintro e w7 ⟨rfl, d5, o5⟩
  rw [rn4.2] at d5
  have O5 := Lib.hid (O4.out.trans o5)
  have D5 := Lib.hid d5
  clear P4 d5 o5 O4
  cases sy
  · cases kp
    · have P6 := Lib.hid (crash_lit2 D5.out (O5.out.up (Fb_up (Nat.le_refl _))) 5 5 (by omega) (by omega) false)
      rw [rn6 (X := B) false rfl FB.out] at P6
      clear D5
      go_wp2_with fail
      refine P6.out.mono ?_
      rintro e w8 ⟨rfl, d8, o8⟩
      have O8 := Lib.hid (O5.out.trans o8)
      have q7 := rn7 (X := B) (fs := upd fs B (o.data.toList, o.data.toList)) (t := o) la (by rw [upd_same])
      have P7 := Lib.hid (read_d d8 ⟨#[97]⟩ (by decide) 0 1000 (by omega) (by omega))
      rw [q7.1, q7.2] at P7
      clear P6 d8 o8 O5 q7
      go_wp2_with fail
      refine P7.out.mono ?_
      rintro e w9 ⟨rfl, hb9⟩
      have O9 := Lib.hid (O8.out.trans (Oth.of_below hb9))
      clear P7 hb9 O8
      go_wp2_with fail
      refine (awake_any _).mono ?_
      rintro e wa ⟨rfl, hba⟩
      have OA := Lib.hid (O9.out.trans (Oth.of_below hba))
      clear hba O9
      go_wp2_with fail
      go_ret
      exact ⟨by simp, OA.out.fb (Nat.le_refl _)⟩
    · have P6 := Lib.hid (crash_lit2 D5.out (O5.out.up (Fb_up (Nat.le_refl _))) 5 5 (by omega) (by omega) true)
      rw [rn6 (X := C) true rfl FC.out] at P6
      clear D5
      go_wp2_with fail
      refine P6.out.mono ?_
      rintro e w8 ⟨rfl, d8, o8⟩
      have O8 := Lib.hid (O5.out.trans o8)
      have q7 := rn7 (X := C) (fs := upd fs C (n.data.toList, n.data.toList)) (t := n) lb (by rw [upd_same])
      have P7 := Lib.hid (read_d d8 ⟨#[97]⟩ (by decide) 0 1000 (by omega) (by omega))
      rw [q7.1, q7.2] at P7
      clear P6 d8 o8 O5 q7
      go_wp2_with fail
      refine P7.out.mono ?_
      rintro e w9 ⟨rfl, hb9⟩
      have O9 := Lib.hid (O8.out.trans (Oth.of_below hb9))
      clear P7 hb9 O8
      go_wp2_with fail
      refine (awake_any _).mono ?_
      rintro e wa ⟨rfl, hba⟩
      have OA := Lib.hid (O9.out.trans (Oth.of_below hba))
      clear hba O9
      go_wp2_with fail
      go_ret
      exact ⟨by simp, OA.out.fb (Nat.le_refl _)⟩
  · have P5 := Lib.hid (sdir_d D5.out (O5.out.up (Fb_up (Nat.le_refl _))))
    rw [rn5.1] at P5
    clear D5
    go_wp2_with fail
    refine P5.out.mono ?_
    rintro e w7 ⟨rfl, d6, o6⟩
    rw [rn5.2] at d6
    have O6 := Lib.hid (O5.out.trans o6)
    have D6 := Lib.hid d6
    clear P5 d6 o6 O5
    cases kp
    · have P6 := Lib.hid (crash_lit2 D6.out (O6.out.up (Fb_up (Nat.le_refl _))) 5 5 (by omega) (by omega) false)
      rw [rn6 (X := C) false rfl FC.out] at P6
      clear D6
      go_wp2_with fail
      refine P6.out.mono ?_
      rintro e w8 ⟨rfl, d8, o8⟩
      have O8 := Lib.hid (O6.out.trans o8)
      have q7 := rn7 (X := C) (fs := upd fs C (n.data.toList, n.data.toList)) (t := n) lb (by rw [upd_same])
      have P7 := Lib.hid (read_d d8 ⟨#[97]⟩ (by decide) 0 1000 (by omega) (by omega))
      rw [q7.1, q7.2] at P7
      clear P6 d8 o8 O6 q7
      go_wp2_with fail
      refine P7.out.mono ?_
      rintro e w9 ⟨rfl, hb9⟩
      have O9 := Lib.hid (O8.out.trans (Oth.of_below hb9))
      clear P7 hb9 O8
      go_wp2_with fail
      refine (awake_any _).mono ?_
      rintro e wa ⟨rfl, hba⟩
      have OA := Lib.hid (O9.out.trans (Oth.of_below hba))
      clear hba O9
      go_wp2_with fail
      go_ret
      exact ⟨by simp, OA.out.fb (Nat.le_refl _)⟩
    · have P6 := Lib.hid (crash_lit2 D6.out (O6.out.up (Fb_up (Nat.le_refl _))) 5 5 (by omega) (by omega) true)
      rw [rn6 (X := C) true rfl FC.out] at P6
      clear D6
      go_wp2_with fail
      refine P6.out.mono ?_
      rintro e w8 ⟨rfl, d8, o8⟩
      have O8 := Lib.hid (O6.out.trans o8)
      have q7 := rn7 (X := C) (fs := upd fs C (n.data.toList, n.data.toList)) (t := n) lb (by rw [upd_same])
      have P7 := Lib.hid (read_d d8 ⟨#[97]⟩ (by decide) 0 1000 (by omega) (by omega))
      rw [q7.1, q7.2] at P7
      clear P6 d8 o8 O6 q7
      go_wp2_with fail
      refine P7.out.mono ?_
      rintro e w9 ⟨rfl, hb9⟩
      have O9 := Lib.hid (O8.out.trans (Oth.of_below hb9))
      clear P7 hb9 O8
      go_wp2_with fail
      refine (awake_any _).mono ?_
      rintro e wa ⟨rfl, hba⟩
      have OA := Lib.hid (O9.out.trans (Oth.of_below hba))
      clear hba O9
      go_wp2_with fail
      go_ret
      exact ⟨by simp, OA.out.fb (Nat.le_refl _)⟩
end Go.Proofs.Ytfacobejgmnmpaa
