/-
  THE WALK of the law ScribeKept: whatever the rows of things, the numbers and the flag, it returns true and writes to nothing that was there.
-/
import Derived.Test.YtjlkdglbnfifeaaGreatDoorDjW
import Derived.Test.YtjlkdglbnfifeaaGreatDoorKpM
import Derived.Maps.OwnIn
namespace Go.Proofs.YtjlkdglbnfifeaaGreatDoor
open Go.RowKit Go.Maps

theorem fit_ab : (((frameL (⟨#[97, 98]⟩ : ByteArray).data.toList).length : Nat) : Int) ≤ 1000 - lenC none ∧ (0 : Int) = 0 ∧ some (frameL (⟨#[97, 98]⟩ : ByteArray).data.toList) = some (frameL (⟨#[97, 98]⟩ : ByteArray).data.toList) := by
  have f2 : (frameL (⟨#[97, 98]⟩ : ByteArray).data.toList).length ≤ 42 := frame_size [97, 98] (by decide)
  exact ⟨by rw [lenC_none]; omega, rfl, rfl⟩
set_option maxHeartbeats 4000000 in
set_option maxRecDepth 100000 in
theorem live_any (w : World) (G : Gl w) : Calls Tryz.prog 4 #[] w fun e w' => e = .returned (.bool true) ∧ Below w.heap.size w w' := by
  have NC := Lib.hid (new_d (Fp := Fb w.heap.size) w (Fb_up (Nat.le_refl _)) 1000 (by omega) 1000 (by omega))
  have HG := Lib.hid G
  clear G
  go_enter Tryz.func4, Tryz.ntmps4
  go_wp2_with fail
  refine NC.out.mono ?_
  rintro e w1 ⟨rfl, d0, o0⟩
  have P1 := Lib.hid (save_js HG.out (o0.fb (Nat.le_refl _)) (Nat.le_refl _) d0 o0.size (by omega) (js_new 1000 (by omega)) ⟨#[97, 98]⟩ (by decide) 0 (some (frameL (⟨#[97, 98]⟩ : ByteArray).data.toList)) (.inl fit_ab))
  have O1 := Lib.hid o0
  clear NC d0 o0
  go_wp2_with fail
  refine P1.out.mono ?_
  rintro e w2 ⟨rfl, D1, J1, d1, o1⟩
  have O2 := Lib.hid (O1.out.trans o1)
  have P2 := Lib.hid (load_some (HG.out.next (O2.out.fb (Nat.le_refl _))) d1 (t := ⟨#[97, 98]⟩) (by decide) J1)
  clear P1 J1 d1 o1 O1
  go_wp2_with fail
  refine P2.out.mono ?_
  rintro e w3 ⟨rfl, hb3⟩
  have O3 := Lib.hid (O2.out.trans (Oth.of_below hb3))
  have P3 := Lib.hid (of_any ⟨#[97, 98]⟩ w3 (by decide))
  rw [show Ad.sum (⟨#[97, 98]⟩ : ByteArray).data.toList = 19267780 from by decide] at P3
  clear P2 hb3 O2
  go_wp2_with fail
  refine P3.out.mono ?_
  rintro e w4 ⟨rfl, hb4⟩
  have O4 := Lib.hid (O3.out.trans (Oth.of_below hb4))
  clear P3 hb4 O3
  go_wp2
  go_ret
  exact ⟨rfl, O4.out.fb (Nat.le_refl _)⟩
end Go.Proofs.YtjlkdglbnfifeaaGreatDoor

namespace Go.Proofs.YtjlkdglbnfifeaaGreatDoor
open Go.RowKit Go.Maps Go.Shelf
attribute [local go_sem] Oper.semAt_some

theorem things_callK (s : ByteArray) (w : World) :
    Calls Tryz.prog 14 #[.string s] w fun e w' => ∃ bs, e = .returned (.func (.func 30) #[] #[.pointer (some ⟨bs, 0, none⟩)]) ∧ w.heap.size ≤ bs ∧ w'.cell? ⟨bs, 0, none⟩ = some (.string s) ∧ Below w.heap.size w w' := by
  go_enter Tryz.func14, Tryz.ntmps14
  go_wp2
  go_ret
  exact ⟨w.heap.size, rfl, Nat.le_refl _, by simp [go_sem], (Below.refl _ _).alloc (Nat.le_refl _) _⟩
def NumsAt (w : World) (v : Value) (ks : List Int) : Prop :=
  ∃ p c, v = .slice p ks.length c ∧ (ks.length : Int) ≤ 9223372036854775807 ∧ ks.length ≤ c ∧ (c : Int) ≤ 9223372036854775807 ∧ (∀ x ∈ ks, -9223372036854775808 ≤ x ∧ x ≤ 9223372036854775807) ∧
   ∀ i (hi : i < ks.length), ∃ a, p = some a ∧ a.block < w.heap.size ∧ w.cell? (a.add i) = some (.int .i64 ks[i])
theorem nums_keepsK {w w' : World} {p : Option Addr} {c : Nat} {ks : List Int} (hk : ks.length ≤ 20) (h3 : ∀ x ∈ ks, -9223372036854775808 ≤ x ∧ x ≤ 9223372036854775807)
    (h4 : ∀ i (hi : i < ks.length), ∃ a, p = some a ∧ a.block < w.heap.size ∧ w.cell? (a.add i) = some (.int .i64 ks[i])) (hb : Below w.heap.size w w') :
    KeepsAt (Fb w.heap.size) w' (.slice p ks.length c) ks := by
  refine ⟨p, c, rfl, by omega, fun x hx => (h3 x hx).2, ?_⟩
  intro i hi
  obtain ⟨a, h5, h6, h7⟩ := h4 i hi
  refine ⟨a, h5, fun h => absurd h (Nat.not_le_of_lt h6), ?_⟩
  rw [hb.cell (p := a.add i) (by rw [add_block]; exact h6)]
  exact h7
def cOf (y : Bool) (X : ByteArray) : Option Nm := if y then some (frameL X.data.toList) else none
def LoopK (w : World) (X : ByteArray) (y : Bool) (Bd : Nat) (wr : World) : Prop := ∃ d, Kp d (cOf y X) ∧ Dsk (Fb w.heap.size) wr Bd d 1000 ∧ Oth (Fb w.heap.size) w wr
theorem cOf_len {y : Bool} {X : ByteArray} (h : X.size ≤ 3000) : lenC (cOf y X) ≤ 3100 := by
  unfold cOf
  cases y
  · show lenC none ≤ 3100
    rw [lenC_none]; omega
  · show lenC (some _) ≤ 3100
    have h1 := frame_sizeL X.data.toList (by simpa using h)
    have h2 : X.data.toList.length = X.size := by simp
    rw [lenC_some]; omega
def wsum (l : List (Nat × ByteArray)) : Int := l.foldl (fun a x => wrap64 (a + (x.2.size : Int))) 0
theorem wsum_snoc (l : List (Nat × ByteArray)) (x : Nat × ByteArray) : wsum (l ++ [x]) = wrap64 (wsum l + (x.2.size : Int)) := by simp [wsum]
theorem wsum_aux : ∀ (l : List (Nat × ByteArray)) (n : Nat), n + (l.map (fun x => x.2.size)).sum ≤ 100000 → l.foldl (fun a x => wrap64 (a + (x.2.size : Int))) (n : Int) = ((n + (l.map (fun x => x.2.size)).sum : Nat) : Int)
  | [], n, _ => by simp
  | x :: l, n, h => by
    simp only [List.map_cons, List.sum_cons] at h
    have e : wrap64 ((n : Int) + (x.2.size : Int)) = ((n + x.2.size : Nat) : Int) := by
      rw [← IntWalk.i64_left, IntKind.wrap_i64]; omega
    simp only [List.foldl_cons, e]
    rw [wsum_aux l (n + x.2.size) (by omega)]
    simp only [List.map_cons, List.sum_cons]
    omega
theorem wsum_eq {l : List (Nat × ByteArray)} (h : (l.map (fun x => x.2.size)).sum ≤ 100000) : wsum l = ((l.map (fun x => x.2.size)).sum : Nat) := by
  have := wsum_aux l 0 (by omega)
  simpa [wsum] using this
theorem bytes_neK {a b : ByteArray} (h : ¬ a = b) : (a.toList == b.toList) = false := by
  rw [Lib.toList_data, Lib.toList_data]
  simpa using fun e => h (WideShapes.bytes_inj e)
theorem back_oth {B a b : Nat} {w w' : World} (h : Oth (nar (Fb B) a b) w w') (hB : B ≤ a) (hab : a ≤ b) : Oth (Fb B) w w' := Oth.wide h (fun _ hk => Nat.le_trans hB hk) hab
theorem back_dsk {B a b : Nat} {w : World} {Bd : Nat} {d : DS} {m : Nat} (h : Dsk (nar (Fb B) a b) w Bd d m) (hB : B ≤ a) (hab : a ≤ b) : Dsk (Fb B) w Bd d m := h.wider (fun _ _ hj => nar_of (fun _ hk => Nat.le_trans hB hk) hab hj)
theorem nar_dskK {Fp : Nat → Prop} {w : World} {Bd : Nat} {d : DS} {m : Nat} (h : Dsk Fp w Bd d m) (b : Nat) : Dsk (nar Fp w.heap.size b) w Bd d m := by
  obtain ⟨mn, ms, vs, hne, hD⟩ := h
  exact ⟨mn, ms, vs, hne, hD.nar b⟩
set_option maxHeartbeats 16000000 in
set_option maxRecDepth 100000 in
theorem kept_walk (p : Option Addr) (cap : Nat) (ls : List (List Pk.Th)) (av kv : Value) (us ks : List Int) (nm : Bool) (w : World) (hA : LsAt w p ls) (hl : ls.length ≤ maxLen) (hll : ∀ l ∈ ls, l.length ≤ maxLen) (hok : ∀ l ∈ ls, ∀ t ∈ l, t.ok)
    (ha : NumsAt w av us) (hk : NumsAt w kv ks) (G : Gl w) :
    Calls Tryz.prog 3 #[.slice p ls.length cap, av, kv, .bool nm] w fun e w' => e = .returned (.bool true) ∧ Below w.heap.size w w' := by
  obtain ⟨ap, ac, rfl, alen, _, _, amx, aat⟩ := ha
  obtain ⟨kp, kc, rfl, klen, kcap, kcmx, kmx, kat⟩ := hk
  refine (callsIn_wide (n := 6)).1 ?_
  refine callsIn_of_wp_marks Tryz.func3 rfl trivial ?_ rfl
  simp only [Tryz.ntmps3, List.size_toArray, List.length_cons, List.length_nil, Nat.reduceAdd, Nat.reduceSub, Array.replicate_succ, Array.replicate_zero, List.push_toArray, List.append_toArray, List.nil_append, List.cons_append]
  have t1 : Fence.wide.fn 4 := trivial
  have t2 : Fence.wide.fn 5 := trivial
  have t3 : Fence.wide.fn 6 := trivial
  have t4 : Fence.wide.fn 7 := trivial
  have t5 : Fence.wide.fn 8 := trivial
  have t6 : Fence.wide.fn 9 := trivial
  have t7 : Fence.wide.fn 10 := trivial
  have t8 : Fence.wide.fn 11 := trivial
  have t9 : Fence.wide.fn 12 := trivial
  have t10 : Fence.wide.fn 13 := trivial
  have t11 : Fence.wide.fn 14 := trivial
  have HG := Lib.hid G
  have HA := Lib.hid (fun (wr : World) (hb : Below w.heap.size w wr) => hA.below hb)
  have HLL := Lib.hid hll
  have HOK := Lib.hid hok
  have AA : Hid (∀ wr : World, Below w.heap.size w wr → ∀ i (hi : i < us.length), ∃ a, ap = some a ∧ wr.cell? (a.add i) = some (.int .i64 us[i])) := by
    refine Lib.hid ?_
    intro wr hO i hi
    obtain ⟨a, e, hb, hc⟩ := aat i hi
    exact ⟨a, e, (hO.cell (p := a.add i) (by have : (a.add i).block = a.block := add_block a i; omega)).trans hc⟩
  have AM := Lib.hid amx
  have KA := Lib.hid (fun (hks : ks.length ≤ 20) (w' : World) (hb : Below w.heap.size w w') => nums_keepsK (c := kc) hks kmx kat hb)
  unfold maxLen at hl
  clear aat amx kmx kat hA hll hok G
  gi_wp2_with fail
  refine (callsIn_wide.2 (live_any w HG.out)).mono ?_
  rintro e w1 ⟨rfl, hb1⟩
  have HB1 := Lib.hid hb1
  have NC := Lib.hid (new_d (Fp := Fb w.heap.size) w1 (Fb_up hb1.size) 1048576 (by omega) 1000 (by omega))
  clear hb1
  gi_wp2_with fail
  refine (callsIn_wide.2 NC.out).mono ?_
  rintro e w2 ⟨rfl, d0, o0⟩
  have K0 : Hid (LoopK w ⟨#[]⟩ false (w1.heap.size + 2) w2) := Lib.hid ⟨_, Kp.new, d0, (Oth.of_below HB1.out).trans o0⟩
  generalize hBd : w1.heap.size + 2 = Bd at *
  clear NC d0 o0 HB1 hBd
  gi_wp2_with fail
  gi_loopw [10, 11, 12] (fun lv bv iv wr => ∃ (i : Nat) (X : ByteArray) (y : Bool), i ≤ 8 ∧ i ≤ ls.length ∧ lv = .string X ∧ bv = .string X ∧ iv = .int .i64 i ∧ Hid (Pz X) ∧ (y = false → X = ⟨#[]⟩) ∧ Hid (LoopK w X y Bd wr)) (fun _ _ iv _ => 8 - (intOf iv).toNat)
  case atStart => exact ⟨0, _, false, by omega, by omega, rfl, rfl, rfl, Lib.hid pz_nil, fun _ => rfl, K0⟩
  case round =>
    obtain ⟨i, X, y, hi8, hil, rfl, rfl, rfl, HPX, hy, HK⟩ := hrel
    obtain ⟨W0, hW0⟩ : ∃ x, x = wr := ⟨_, rfl⟩
    subst hW0
    clear K0
    by_cases hgo : i < ls.length ∧ i < 8
    · obtain ⟨hg1, hg2⟩ := hgo
      obtain ⟨d, K, D, O⟩ := HK.out
      have hBW := O.fb (Nat.le_refl _)
      obtain ⟨a, rfl, hab, q, c, hq, hT⟩ := HA.out W0 hBW i hg1
      have TOK := Lib.hid (HOK.out _ (List.getElem_mem hg1))
      have hl2 := HLL.out _ (List.getElem_mem hg1)
      unfold maxLen at hl2
      generalize ls[i] = l at *
      have HTT := Lib.hid hT
      have HKK := Lib.hid K
      have HDD := Lib.hid D
      have HOO := Lib.hid O
      have HBW := Lib.hid hBW
      clear HK K D O hT hBW
      have g1o : decide ((i : Int) < (ls.length : Int)) = true := by simp; omega
      have g2o : decide ((i : Int) < 8) = true := by simp; omega
      gi_wp2_with fail
      gi_loopw [14] (fun kv wy => ∃ (k : Nat), k ≤ l.length ∧ k ≤ 10 ∧ kv = .int .i64 k ∧ Hid (Pk.Wr wy W0.heap.size (W0.heap.size + 1) (pcs l k).flatten) ∧ Hid (Pk.WFr W0.heap.size (W0.heap.size + 1) (W0.alloc (.cells #[.slice none 0 0] 29)) wy)) (fun kv _ => 10 - (intOf kv).toNat)
      case atStart => exact ⟨0, by omega, by omega, rfl, Lib.hid (Pk.Wr.new W0), Lib.hid (Pk.WFr.refl _ _ _)⟩
      case round =>
        obtain ⟨k, hkl, hk10, rfl, HW, HF⟩ := hrel
        obtain ⟨W1, hW1⟩ : ∃ x, x = wr := ⟨_, rfl⟩
        subst hW1
        have HB01 : Hid (Below W0.heap.size W0 W1) := Lib.hid (((Below.refl _ W0).alloc (Nat.le_refl _) _).trans (HF.out.below (by omega)))
        have hq1 := (HB01.out.cell (p := a.add i) (by have : (a.add i).block = a.block := add_block a i; omega)).trans hq
        have hz01 : W0.heap.size + 1 ≤ W1.heap.size := by have := HF.out.size; simp at this; omega
        by_cases hk : k < l.length ∧ k < 10
        · skip
          obtain ⟨hk1, hk2⟩ := hk
          have g1 : decide ((k : Int) < (l.length : Int)) = true := by simp; omega
          have g2 : decide ((k : Int) < 10) = true := by simp; omega
          have gi : (i : Int) < (ls.length : Int) := by omega
          obtain ⟨a2, rfl, hab2, c0, c1, c2⟩ := (HTT.out.below HB01.out) k hk1
          have TK := Lib.hid (TOK.out _ (List.getElem_mem hk1))
          have HS := Lib.hid (pcs_snoc hk1)
          have HLN := Lib.hid (pcs_len TOK.out k)
          generalize l[k] = t at *
          obtain ⟨tk, tn, ts⟩ := t
          simp only at c0 c1 c2
          have HWa : Hid (Pk.Wr (W1.alloc (.cells #[.int .i64 tk, .int .i64 tn, .string ts] 32)) W0.heap.size (W0.heap.size + 1) (pcs l k).flatten) := Lib.hid (HW.out.kept ((Below.refl _ W1).alloc (Nat.le_refl _) _))
          have HFa : Hid (Pk.WFr W0.heap.size (W0.heap.size + 1) (W0.alloc (.cells #[.slice none 0 0] 29)) (W1.alloc (.cells #[.int .i64 tk, .int .i64 tn, .string ts] 32))) := Lib.hid (HF.out.alloc hz01 _)
          have HTAB : Hid (Lib.TabBelow Tryz.prog W0.heap.size (W1.alloc (.cells #[.int .i64 tk, .int .i64 tn, .string ts] 32)) "internal/strconv.uint64pow10" .u64 Lib.pow10Tab) := Lib.hid ((tab_at HG.out.tab HBW.out HBW.out.size).on (HB01.out.alloc (by omega) _))
          by_cases h1 : tk = 1
          · subst h1
            have PUT := Lib.hid (Pk.wint_any W0.heap.size (W0.heap.size + 1) _ tn _ HWa.out (by have := HLN.out; omega) TK.out.1 TK.out.2.1 HTAB.out)
            gi_wp2_with fail
            refine (callsIn_wide.2 PUT.out).mono ?_
            rintro e w2 ⟨rfl, hw2, hf2⟩
            have HW2 : Hid (Pk.Wr w2 W0.heap.size (W0.heap.size + 1) (pcs l (k + 1)).flatten) := Lib.hid (by
              rw [HS.out]
              have e : (nz ⟨1, tn, ts⟩).enc = [105] ++ Lib.itoa tn ++ [59] := by unfold nz; rw [if_pos rfl]; unfold Pk.Th.enc; rw [if_pos rfl]; rfl
              rw [e]
              simpa [List.append_assoc] using hw2)
            have HF2 := Lib.hid (HFa.out.trans hf2)
            clear hw2 hf2 PUT
            gi_wp2_with fail
            refine ⟨?_, ?_⟩
            · exact ⟨k + 1, by omega, by omega, by go_num, HW2, HF2⟩
            · simp [intOf]; omega
          · have q1 : (tk == 1) = false := by simpa using h1
            have q2 : decide (tk = 1) = false := by simpa using h1
            have CT := Lib.hid (fun w' => cut_any ts 100 w' TK.out.2.2 (by omega))
            have lt := cutB_size ts 100
            have hcut : Hid (Pk.cutB ts 100 = cutB ts 100) := Lib.hid rfl
            generalize cutB ts 100 = tc at *
            have PUT := Lib.hid (Pk.wtext_any W0.heap.size (W0.heap.size + 1) _ tc _ HWa.out (by have := HLN.out; omega) HTAB.out)
            gi_wp2_with fail
            refine (callsIn_wide.2 (CT.out _)).mono ?_
            rintro e w2 ⟨rfl, rfl⟩
            clear CT
            gi_wp2_with fail
            refine (callsIn_wide.2 PUT.out).mono ?_
            rintro e w2 ⟨rfl, hw2, hf2⟩
            have HW2 : Hid (Pk.Wr w2 W0.heap.size (W0.heap.size + 1) (pcs l (k + 1)).flatten) := Lib.hid (by
              rw [HS.out]
              have e : (nz ⟨tk, tn, ts⟩).enc = Lib.itoa tc.size ++ [58] ++ tc.data.toList := by
                unfold nz
                rw [if_neg h1]
                unfold Pk.Th.enc
                rw [if_neg (by simp), if_pos rfl, hcut.out]
                simp [Pk.textL]
              rw [e]
              simpa [List.append_assoc] using hw2)
            have HF2 := Lib.hid (HFa.out.trans hf2)
            clear hw2 hf2 PUT
            gi_wp2_with fail
            refine ⟨?_, ?_⟩
            · exact ⟨k + 1, by omega, by omega, by go_num, HW2, HF2⟩
            · simp [intOf]; omega
        · skip
          have hkx : (k = l.length ∧ k ≤ 10) ∨ (k = 10 ∧ k < l.length) := by omega
          have HPT : Hid (Pz ⟨(pcs l k).flatten.toArray⟩) := Lib.hid (pz_pcs TOK.out hk10 (by simp))
          have HTL : Hid ((⟨(pcs l k).flatten.toArray⟩ : ByteArray).data.toList = (pcs l k).flatten) := Lib.hid (by simp)
          obtain ⟨P, hP⟩ : ∃ P, P = (pcs l k).flatten := ⟨_, rfl⟩
          rw [← hP] at HW HPT HTL
          obtain ⟨T, hTd⟩ : ∃ T : ByteArray, T = ⟨P.toArray⟩ := ⟨_, rfl⟩
          rw [← hTd] at HPT HTL
          have HTD := Lib.hid hTd
          clear hP hTd
          have hB0 : w.heap.size ≤ W0.heap.size := HBW.out.size
          have hz1 : W0.heap.size ≤ W1.heap.size := by omega
          have DQ : Hid (Dsk (nar (Fb w.heap.size) W0.heap.size W1.heap.size) W1 Bd d 1000) := Lib.hid ((nar_dskK HDD.out W1.heap.size).below HB01.out)
          have HNO : Hid (∀ j, W0.heap.size ≤ j → j < W1.heap.size → ¬ nar (Fb w.heap.size) W0.heap.size W1.heap.size j) := Lib.hid (fun j h1 h2 h => by
            rcases h with h | h
            · omega
            · omega)
          have HFP : Hid (∀ j, nar (Fb w.heap.size) W0.heap.size W1.heap.size j → w.heap.size ≤ j) := Lib.hid (fun j h => nar_of (fun k hk => Nat.le_trans hB0 hk) hz1 h)
          have HUP : Hid (Up (nar (Fb w.heap.size) W0.heap.size W1.heap.size) W1) := Lib.hid (nar_up (Nat.le_refl _))
          have HO1 : Hid (Oth (Fb w.heap.size) w W1) := Lib.hid (HOO.out.trans (Oth.of_below HB01.out))
          have HB1 : Hid (Below w.heap.size w W1) := Lib.hid (HBW.out.trans (HB01.out.mono hB0))
          have gi : (i : Int) < (ls.length : Int) := by omega
          clear HF HTT TOK HB01 hq
          by_cases hAu : i < us.length
          · obtain ⟨b, rfl, hcellA⟩ := AA.out W1 HB1.out i hAu
            have AR := Lib.hid (arm_d DQ.out us[i] (AM.out _ (List.getElem_mem hAu)))
            have K1 := Lib.hid (HKK.out.arm us[i])
            have g3 : decide ((i : Int) < (us.length : Int)) = true := by simp; omega
            generalize us[i] = ai at *
            generalize armDS d ai = d1 at *
            clear DQ HKK
            rcases hkx with ⟨hk1, hk2⟩ | ⟨hk1, hk2⟩
            all_goals
              gi_wp2_with fail
              refine (callsIn_wide.2 AR.out).mono ?_
              rintro e w3 ⟨rfl, d3, o3⟩
              have HW3 := Lib.hid (wr_oth HW.out o3 HNO.out)
              have O3 := Lib.hid o3
              have D3 := Lib.hid d3
              clear AR d3 o3
              have HO3 : Hid (Oth (Fb w.heap.size) w w3) := Lib.hid (HO1.out.trans (back_oth O3.out hB0 hz1))
              have SV := Lib.hid (save_keep HG.out (HO3.out.fb (Nat.le_refl _)) (Nat.le_refl _) HFP.out (O3.out.up HUP.out) D3.out HO3.out.size (by omega) K1.out T HPT.out.size)
              have WB := Lib.hid (Pk.wbytes_any _ _ _ _ HW3.out)
              rw [← HTD.out] at WB
              gi_wp2_with fail
              refine (callsIn_wide.2 WB.out).mono ?_
              rintro e wx ⟨rfl, rfl⟩
              clear WB
              gi_wp2_with fail
              refine (callsIn_wide.2 SV.out).mono ?_
              rintro e w4 ⟨v4, rfl, d4, hc4, D4, o4⟩
              have O4 := Lib.hid (O3.out.trans o4)
              have HW4 := Lib.hid (wr_oth HW.out O4.out HNO.out)
              have AR2 := Lib.hid (arm_d D4 (-1) (by omega))
              clear SV D4 o4 O3 D3 HW3
              rcases hc4 with ⟨rfl, K4⟩ | ⟨rfl, X4⟩
              · have K5 := Lib.hid (K4.arm (-1))
                generalize armDS d4 (-1) = d5 at *
                clear K4
                gi_wp2_with fail
                refine (callsIn_wide.2 AR2.out).mono ?_
                rintro e w5 ⟨rfl, d5', o5⟩
                have O5 := Lib.hid (O4.out.trans o5)
                have HW5 := Lib.hid (wr_oth HW.out O5.out HNO.out)
                have KN : Hid (LoopK w T true Bd w5) := Lib.hid ⟨_, K5.out, back_dsk d5' hB0 hz1, HO1.out.trans (back_oth O5.out hB0 hz1)⟩
                have WB := Lib.hid (Pk.wbytes_any _ _ _ _ HW5.out)
                rw [← HTD.out] at WB
                clear AR2 d5' o5 O4 HW4
                gi_wp2_with fail
                refine (callsIn_wide.2 WB.out).mono ?_
                rintro e wx ⟨rfl, rfl⟩
                clear WB
                gi_wp2_with fail
                refine ⟨?_, ?_⟩
                · exact ⟨i + 1, T, true, by omega, by omega, rfl, rfl, by go_num, HPT, fun h => by simp at h, KN⟩
                · simp [intOf]; omega
              · have hX := X4.arm (-1)
                rw [hX] at AR2
                have HX := Lib.hid X4
                clear X4 hX
                gi_wp2_with fail
                refine (callsIn_wide.2 AR2.out).mono ?_
                rintro e w5 ⟨rfl, d5', o5⟩
                have O5 := Lib.hid (O4.out.trans o5)
                have HW5 := Lib.hid (wr_oth HW.out O5.out HNO.out)
                have D5 := Lib.hid (back_dsk d5' hB0 hz1)
                have HO5 : Hid (Oth (Fb w.heap.size) w w5) := Lib.hid (HO1.out.trans (back_oth O5.out hB0 hz1))
                have WB := Lib.hid (Pk.wbytes_any _ _ _ _ HW5.out)
                rw [← HTD.out] at WB
                clear AR2 d5' o5 O4 HW4
                gi_wp2_with fail
                refine (callsIn_wide.2 WB.out).mono ?_
                rintro e wx ⟨rfl, rfl⟩
                clear WB
                by_cases hk20 : ks.length ≤ 20
                · have kd : decide ((20 : Int) < (ks.length : Int)) = false := by simp; omega
                  have CR := Lib.hid (crash_d D5.out (HO5.out.up (Fb_up (Nat.le_refl _))) _ ks (KA.out hk20 _ (HO5.out.fb (Nat.le_refl _))) nm)
                  have KC := kp_crash HX.out (cOf_len HPX.out.size) (cOf_len (y := true) HPT.out.size) ks nm
                  generalize crashD d4 ks nm = d6 at *
                  have HKC := Lib.hid KC
                  clear KC D5 HX
                  gi_wp2_with fail
                  refine (callsIn_wide.2 CR.out).mono ?_
                  rintro e w6 ⟨rfl, d6', o6⟩
                  have HO6 := Lib.hid (HO5.out.trans o6)
                  have D6 := Lib.hid d6'
                  have HB6 := Lib.hid (HO6.out.fb (Nat.le_refl _))
                  clear CR d6' o6 HO5
                  rcases HKC.out with KC | KC
                  · cases y
                    · have hX0 := hy rfl
                      subst hX0
                      have LD := Lib.hid (loadk_none D6.out KC)
                      gi_wp2_with fail
                      refine (callsIn_wide.2 LD.out).mono ?_
                      rintro e w20 ⟨rfl, hb20⟩
                      have HB20 := Lib.hid (HB6.out.trans (hb20.mono HB6.out.size))
                      clear LD hb20
                      gi_wp2
                      refine ⟨.bool true, ?_, rfl, HB20.out⟩
                      simp [results, Tryz.results3, go_sem]
                    · skip
                      have HPT0 := HPT
                      clear HPT
                      have HPT := HPX
                      have LD := Lib.hid (loadk_some (HG.out.next HB6.out) D6.out (t := X) HPT.out.size KC)
                      have htz := HPT.out.size
                      gi_wp2_with fail
                      refine (callsIn_wide.2 LD.out).mono ?_
                      rintro e w20 ⟨rfl, hb20⟩
                      have HB20 := Lib.hid (HB6.out.trans (hb20.mono HB6.out.size))
                      clear LD hb20
                      gi_wp2_with fail
                      have hbn : Below w20.heap.size w20 (w20.alloc (.cells #[.int .i64 0] 3)) := (Below.refl _ _).alloc (Nat.le_refl _) _
                      refine (callsIn_wide.2 (things_callK X _)).mono ?_
                      rintro e w21 ⟨bs, rfl, hbs0, hbs1, hb21⟩
                      have cn21 : w21.cell? ⟨w20.heap.size, 0, none⟩ = some (.int .i64 (wsum [])) := (hb21.cell (p := ⟨w20.heap.size, 0, none⟩) (by simp)).trans (by simp [go_sem, wsum])
                      have fn21 : w21.frozen? ⟨w20.heap.size, 0, none⟩ = false := (hb21.frozen (p := ⟨w20.heap.size, 0, none⟩) (by simp)).trans (by simp [go_sem])
                      have HB21 := Lib.hid (HB20.out.trans ((hbn.trans (hb21.mono (by simp))).mono HB20.out.size))
                      have hz21 : w20.heap.size + 1 ≤ w21.heap.size := by have := hb21.size; simp at this; omega
                      have hbs21 : bs < w21.heap.size := World.block_lt_of_cell? _ _ hbs1
                      have hbs2 : w20.heap.size + 1 ≤ bs := by simpa using hbs0
                      clear hbn hb21
                      gi_wp2_with fail
                      refine Pk.wpIn_rangeC (F := Fence.wide) rfl (by omega) (gf := 30) (lb := #[.pointer (some ⟨bs, 0, none⟩)]) rfl trivial (enters_of Tryz.func30 (by kernel_rfl) rfl)
                        (Pk.things_seq X (by omega) bs _ (by omega) w21 hbs1) (Below.refl _ _) (fun _ => rfl) (fun k => k = w20.heap.size) (fun k hk hc => by subst hk; omega) (fun k hk => by subst hk; exact hbs21) (fun k hc => by omega)
                        (fun (pre : List (Nat × ByteArray)) C W => C = (fun k => k = w20.heap.size) ∧ W.cell? ⟨w20.heap.size, 0, none⟩ = some (.int .i64 (wsum pre)) ∧ W.frozen? ⟨w20.heap.size, 0, none⟩ = false) (fun _ _ _ _ => False) ?_ (fun _ _ _ _ _ h _ => h) ⟨rfl, cn21, fn21⟩ ?_ ?_ ?_ ?_ ?_
                      case refine_1 =>
                        rintro pre C A B ⟨rfl, h1, h2⟩ hs
                        exact ⟨rfl, (hs.cell (p := ⟨w20.heap.size, 0, none⟩) rfl).trans h1, (hs.frozen (p := ⟨w20.heap.size, 0, none⟩) rfl).trans h2⟩
                      case refine_3 =>
                        intro l' x W K hK
                        gi_wp2
                        exact hK
                      case refine_6 => rintro D c pre C W _ h; exact h.elim
                      case refine_4 =>
                        rintro l' pre x C W ⟨rfl, h1, h2⟩ hcm hf hlen
                        have hW := World.block_lt_of_cell? _ _ h1
                        have hws := wsum_snoc pre x
                        generalize wsum pre = sm at *
                        gi_wp2
                        refine ⟨fun k => k = w20.heap.size, fun k hk => Or.inl hk, fun k hk => by rw [World.size_setCell, show k = w20.heap.size from hk]; exact hW, ⟨rfl, rfl, rfl, Nat.le_of_eq (World.size_setCell _ _ _).symm, fun k _ hn => Below.heap_setCell W ⟨w20.heap.size, 0, none⟩ _ k hn⟩, rfl, ?_, ?_⟩
                        · rw [hws]
                          exact World.cell?_setCell_same' _ _ _ (by rw [h1]; rfl)
                        · rw [World.frozen?_setCell]; exact h2
                      case refine_5 =>
                        rintro D xs C6 w22 hS ⟨rfl, h1, h2⟩ hcm hf rfl hD hsz
                        have htot : wsum xs = (X.size : Int) := by
                          have h3 := HPT.out.total
                          rw [wsum_eq (by rw [hS, h3]; omega), hS, h3]
                        rw [htot] at h1
                        have HBF := HB21.out.trans (hcm.below (n := w.heap.size) (by have := HB21.out.size; omega) (fun k hk => by have hk : k = w20.heap.size := hk; have := HB20.out.size; omega))
                        have bf : Below w.heap.size w (w22.putObj w21.heap.size (.deferred none)) :=
                          ⟨HBF.os, HBF.tape, HBF.output, by simp only [World.putObj_size]; exact HBF.size, fun k hk => (World.putObj_heap_other (by have := HB21.out.size; omega)).trans (HBF.block k hk)⟩
                        clear htot HBF hcm hf hS
                        by_cases hcmp : X = T
                        · subst hcmp
                          gi_wp2
                          refine ⟨by simp, .inl ⟨_, _, rfl, run_takeDeferred hD, ?_⟩⟩
                          refine ⟨.bool true, ?_, rfl, bf⟩
                          simp [results, Tryz.results3, go_sem]
                        · have hcn := bytes_neK hcmp
                          gi_wp2
                          refine ⟨by simp, .inl ⟨_, _, rfl, run_takeDeferred hD, ?_⟩⟩
                          refine ⟨.bool true, ?_, rfl, bf⟩
                          simp [results, Tryz.results3, go_sem]
                  · skip
                    have LD := Lib.hid (loadk_some (HG.out.next HB6.out) D6.out (t := T) HPT.out.size KC)
                    have htz := HPT.out.size
                    gi_wp2_with fail
                    refine (callsIn_wide.2 LD.out).mono ?_
                    rintro e w20 ⟨rfl, hb20⟩
                    have HB20 := Lib.hid (HB6.out.trans (hb20.mono HB6.out.size))
                    clear LD hb20
                    gi_wp2_with fail
                    have hbn : Below w20.heap.size w20 (w20.alloc (.cells #[.int .i64 0] 3)) := (Below.refl _ _).alloc (Nat.le_refl _) _
                    refine (callsIn_wide.2 (things_callK T _)).mono ?_
                    rintro e w21 ⟨bs, rfl, hbs0, hbs1, hb21⟩
                    have cn21 : w21.cell? ⟨w20.heap.size, 0, none⟩ = some (.int .i64 (wsum [])) := (hb21.cell (p := ⟨w20.heap.size, 0, none⟩) (by simp)).trans (by simp [go_sem, wsum])
                    have fn21 : w21.frozen? ⟨w20.heap.size, 0, none⟩ = false := (hb21.frozen (p := ⟨w20.heap.size, 0, none⟩) (by simp)).trans (by simp [go_sem])
                    have HB21 := Lib.hid (HB20.out.trans ((hbn.trans (hb21.mono (by simp))).mono HB20.out.size))
                    have hz21 : w20.heap.size + 1 ≤ w21.heap.size := by have := hb21.size; simp at this; omega
                    have hbs21 : bs < w21.heap.size := World.block_lt_of_cell? _ _ hbs1
                    have hbs2 : w20.heap.size + 1 ≤ bs := by simpa using hbs0
                    clear hbn hb21
                    gi_wp2_with fail
                    refine Pk.wpIn_rangeC (F := Fence.wide) rfl (by omega) (gf := 30) (lb := #[.pointer (some ⟨bs, 0, none⟩)]) rfl trivial (enters_of Tryz.func30 (by kernel_rfl) rfl)
                      (Pk.things_seq T (by omega) bs _ (by omega) w21 hbs1) (Below.refl _ _) (fun _ => rfl) (fun k => k = w20.heap.size) (fun k hk hc => by subst hk; omega) (fun k hk => by subst hk; exact hbs21) (fun k hc => by omega)
                      (fun (pre : List (Nat × ByteArray)) C W => C = (fun k => k = w20.heap.size) ∧ W.cell? ⟨w20.heap.size, 0, none⟩ = some (.int .i64 (wsum pre)) ∧ W.frozen? ⟨w20.heap.size, 0, none⟩ = false) (fun _ _ _ _ => False) ?_ (fun _ _ _ _ _ h _ => h) ⟨rfl, cn21, fn21⟩ ?_ ?_ ?_ ?_ ?_
                    case refine_1 =>
                      rintro pre C A B ⟨rfl, h1, h2⟩ hs
                      exact ⟨rfl, (hs.cell (p := ⟨w20.heap.size, 0, none⟩) rfl).trans h1, (hs.frozen (p := ⟨w20.heap.size, 0, none⟩) rfl).trans h2⟩
                    case refine_3 =>
                      intro l' x W K hK
                      gi_wp2
                      exact hK
                    case refine_6 => rintro D c pre C W _ h; exact h.elim
                    case refine_4 =>
                      rintro l' pre x C W ⟨rfl, h1, h2⟩ hcm hf hlen
                      have hW := World.block_lt_of_cell? _ _ h1
                      have hws := wsum_snoc pre x
                      generalize wsum pre = sm at *
                      gi_wp2
                      refine ⟨fun k => k = w20.heap.size, fun k hk => Or.inl hk, fun k hk => by rw [World.size_setCell, show k = w20.heap.size from hk]; exact hW, ⟨rfl, rfl, rfl, Nat.le_of_eq (World.size_setCell _ _ _).symm, fun k _ hn => Below.heap_setCell W ⟨w20.heap.size, 0, none⟩ _ k hn⟩, rfl, ?_, ?_⟩
                      · rw [hws]
                        exact World.cell?_setCell_same' _ _ _ (by rw [h1]; rfl)
                      · rw [World.frozen?_setCell]; exact h2
                    case refine_5 =>
                      rintro D xs C6 w22 hS ⟨rfl, h1, h2⟩ hcm hf rfl hD hsz
                      have htot : wsum xs = (T.size : Int) := by
                        have h3 := HPT.out.total
                        rw [wsum_eq (by rw [hS, h3]; omega), hS, h3]
                      rw [htot] at h1
                      have HBF := HB21.out.trans (hcm.below (n := w.heap.size) (by have := HB21.out.size; omega) (fun k hk => by have hk : k = w20.heap.size := hk; have := HB20.out.size; omega))
                      have bf : Below w.heap.size w (w22.putObj w21.heap.size (.deferred none)) :=
                        ⟨HBF.os, HBF.tape, HBF.output, by simp only [World.putObj_size]; exact HBF.size, fun k hk => (World.putObj_heap_other (by have := HB21.out.size; omega)).trans (HBF.block k hk)⟩
                      clear htot HBF hcm hf hS
                      gi_wp2
                      refine ⟨by simp, .inl ⟨_, _, rfl, run_takeDeferred hD, ?_⟩⟩
                      refine ⟨.bool true, ?_, rfl, bf⟩
                      simp [results, Tryz.results3, go_sem]
                · have kd : decide ((20 : Int) < (ks.length : Int)) = true := by simp; omega
                  clear HX D5
                  gi_wp2
                  refine ⟨.bool true, ?_, rfl, HO5.out.fb (Nat.le_refl _)⟩
                  simp [results, Tryz.results3, go_sem]
          · have g3 : decide ((i : Int) < (us.length : Int)) = false := by simp; omega
            have hgg : ¬ i < us.length := hAu
            have HW3 := HW
            have O3 : Hid (Oth (nar (Fb w.heap.size) W0.heap.size W1.heap.size) W1 W1) := Lib.hid (Oth.refl _ _)
            have D3 := DQ
            have K1 := HKK
            clear DQ HKK
            rcases hkx with ⟨hk1, hk2⟩ | ⟨hk1, hk2⟩
            all_goals
              have HO3 : Hid (Oth (Fb w.heap.size) w W1) := Lib.hid (HO1.out.trans (back_oth O3.out hB0 hz1))
              have SV := Lib.hid (save_keep HG.out (HO3.out.fb (Nat.le_refl _)) (Nat.le_refl _) HFP.out (O3.out.up HUP.out) D3.out HO3.out.size (by omega) K1.out T HPT.out.size)
              have WB := Lib.hid (Pk.wbytes_any _ _ _ _ HW3.out)
              rw [← HTD.out] at WB
              gi_wp2_with fail
              refine (callsIn_wide.2 WB.out).mono ?_
              rintro e wx ⟨rfl, rfl⟩
              clear WB
              gi_wp2_with fail
              refine (callsIn_wide.2 SV.out).mono ?_
              rintro e w4 ⟨v4, rfl, d4, hc4, D4, o4⟩
              have O4 := Lib.hid (O3.out.trans o4)
              have HW4 := Lib.hid (wr_oth HW.out O4.out HNO.out)
              have AR2 := Lib.hid (arm_d D4 (-1) (by omega))
              clear SV D4 o4 O3 D3 HW3
              rcases hc4 with ⟨rfl, K4⟩ | ⟨rfl, X4⟩
              · have K5 := Lib.hid (K4.arm (-1))
                generalize armDS d4 (-1) = d5 at *
                clear K4
                gi_wp2_with fail
                refine (callsIn_wide.2 AR2.out).mono ?_
                rintro e w5 ⟨rfl, d5', o5⟩
                have O5 := Lib.hid (O4.out.trans o5)
                have HW5 := Lib.hid (wr_oth HW.out O5.out HNO.out)
                have KN : Hid (LoopK w T true Bd w5) := Lib.hid ⟨_, K5.out, back_dsk d5' hB0 hz1, HO1.out.trans (back_oth O5.out hB0 hz1)⟩
                have WB := Lib.hid (Pk.wbytes_any _ _ _ _ HW5.out)
                rw [← HTD.out] at WB
                clear AR2 d5' o5 O4 HW4
                gi_wp2_with fail
                refine (callsIn_wide.2 WB.out).mono ?_
                rintro e wx ⟨rfl, rfl⟩
                clear WB
                gi_wp2_with fail
                refine ⟨?_, ?_⟩
                · exact ⟨i + 1, T, true, by omega, by omega, rfl, rfl, by go_num, HPT, fun h => by simp at h, KN⟩
                · simp [intOf]; omega
              · have hX := X4.arm (-1)
                rw [hX] at AR2
                have HX := Lib.hid X4
                clear X4 hX
                gi_wp2_with fail
                refine (callsIn_wide.2 AR2.out).mono ?_
                rintro e w5 ⟨rfl, d5', o5⟩
                have O5 := Lib.hid (O4.out.trans o5)
                have HW5 := Lib.hid (wr_oth HW.out O5.out HNO.out)
                have D5 := Lib.hid (back_dsk d5' hB0 hz1)
                have HO5 : Hid (Oth (Fb w.heap.size) w w5) := Lib.hid (HO1.out.trans (back_oth O5.out hB0 hz1))
                have WB := Lib.hid (Pk.wbytes_any _ _ _ _ HW5.out)
                rw [← HTD.out] at WB
                clear AR2 d5' o5 O4 HW4
                gi_wp2_with fail
                refine (callsIn_wide.2 WB.out).mono ?_
                rintro e wx ⟨rfl, rfl⟩
                clear WB
                by_cases hk20 : ks.length ≤ 20
                · have kd : decide ((20 : Int) < (ks.length : Int)) = false := by simp; omega
                  have CR := Lib.hid (crash_d D5.out (HO5.out.up (Fb_up (Nat.le_refl _))) _ ks (KA.out hk20 _ (HO5.out.fb (Nat.le_refl _))) nm)
                  have KC := kp_crash HX.out (cOf_len HPX.out.size) (cOf_len (y := true) HPT.out.size) ks nm
                  generalize crashD d4 ks nm = d6 at *
                  have HKC := Lib.hid KC
                  clear KC D5 HX
                  gi_wp2_with fail
                  refine (callsIn_wide.2 CR.out).mono ?_
                  rintro e w6 ⟨rfl, d6', o6⟩
                  have HO6 := Lib.hid (HO5.out.trans o6)
                  have D6 := Lib.hid d6'
                  have HB6 := Lib.hid (HO6.out.fb (Nat.le_refl _))
                  clear CR d6' o6 HO5
                  rcases HKC.out with KC | KC
                  · cases y
                    · have hX0 := hy rfl
                      subst hX0
                      have LD := Lib.hid (loadk_none D6.out KC)
                      gi_wp2_with fail
                      refine (callsIn_wide.2 LD.out).mono ?_
                      rintro e w20 ⟨rfl, hb20⟩
                      have HB20 := Lib.hid (HB6.out.trans (hb20.mono HB6.out.size))
                      clear LD hb20
                      gi_wp2
                      refine ⟨.bool true, ?_, rfl, HB20.out⟩
                      simp [results, Tryz.results3, go_sem]
                    · skip
                      have HPT0 := HPT
                      clear HPT
                      have HPT := HPX
                      have LD := Lib.hid (loadk_some (HG.out.next HB6.out) D6.out (t := X) HPT.out.size KC)
                      have htz := HPT.out.size
                      gi_wp2_with fail
                      refine (callsIn_wide.2 LD.out).mono ?_
                      rintro e w20 ⟨rfl, hb20⟩
                      have HB20 := Lib.hid (HB6.out.trans (hb20.mono HB6.out.size))
                      clear LD hb20
                      gi_wp2_with fail
                      have hbn : Below w20.heap.size w20 (w20.alloc (.cells #[.int .i64 0] 3)) := (Below.refl _ _).alloc (Nat.le_refl _) _
                      refine (callsIn_wide.2 (things_callK X _)).mono ?_
                      rintro e w21 ⟨bs, rfl, hbs0, hbs1, hb21⟩
                      have cn21 : w21.cell? ⟨w20.heap.size, 0, none⟩ = some (.int .i64 (wsum [])) := (hb21.cell (p := ⟨w20.heap.size, 0, none⟩) (by simp)).trans (by simp [go_sem, wsum])
                      have fn21 : w21.frozen? ⟨w20.heap.size, 0, none⟩ = false := (hb21.frozen (p := ⟨w20.heap.size, 0, none⟩) (by simp)).trans (by simp [go_sem])
                      have HB21 := Lib.hid (HB20.out.trans ((hbn.trans (hb21.mono (by simp))).mono HB20.out.size))
                      have hz21 : w20.heap.size + 1 ≤ w21.heap.size := by have := hb21.size; simp at this; omega
                      have hbs21 : bs < w21.heap.size := World.block_lt_of_cell? _ _ hbs1
                      have hbs2 : w20.heap.size + 1 ≤ bs := by simpa using hbs0
                      clear hbn hb21
                      gi_wp2_with fail
                      refine Pk.wpIn_rangeC (F := Fence.wide) rfl (by omega) (gf := 30) (lb := #[.pointer (some ⟨bs, 0, none⟩)]) rfl trivial (enters_of Tryz.func30 (by kernel_rfl) rfl)
                        (Pk.things_seq X (by omega) bs _ (by omega) w21 hbs1) (Below.refl _ _) (fun _ => rfl) (fun k => k = w20.heap.size) (fun k hk hc => by subst hk; omega) (fun k hk => by subst hk; exact hbs21) (fun k hc => by omega)
                        (fun (pre : List (Nat × ByteArray)) C W => C = (fun k => k = w20.heap.size) ∧ W.cell? ⟨w20.heap.size, 0, none⟩ = some (.int .i64 (wsum pre)) ∧ W.frozen? ⟨w20.heap.size, 0, none⟩ = false) (fun _ _ _ _ => False) ?_ (fun _ _ _ _ _ h _ => h) ⟨rfl, cn21, fn21⟩ ?_ ?_ ?_ ?_ ?_
                      case refine_1 =>
                        rintro pre C A B ⟨rfl, h1, h2⟩ hs
                        exact ⟨rfl, (hs.cell (p := ⟨w20.heap.size, 0, none⟩) rfl).trans h1, (hs.frozen (p := ⟨w20.heap.size, 0, none⟩) rfl).trans h2⟩
                      case refine_3 =>
                        intro l' x W K hK
                        gi_wp2
                        exact hK
                      case refine_6 => rintro D c pre C W _ h; exact h.elim
                      case refine_4 =>
                        rintro l' pre x C W ⟨rfl, h1, h2⟩ hcm hf hlen
                        have hW := World.block_lt_of_cell? _ _ h1
                        have hws := wsum_snoc pre x
                        generalize wsum pre = sm at *
                        gi_wp2
                        refine ⟨fun k => k = w20.heap.size, fun k hk => Or.inl hk, fun k hk => by rw [World.size_setCell, show k = w20.heap.size from hk]; exact hW, ⟨rfl, rfl, rfl, Nat.le_of_eq (World.size_setCell _ _ _).symm, fun k _ hn => Below.heap_setCell W ⟨w20.heap.size, 0, none⟩ _ k hn⟩, rfl, ?_, ?_⟩
                        · rw [hws]
                          exact World.cell?_setCell_same' _ _ _ (by rw [h1]; rfl)
                        · rw [World.frozen?_setCell]; exact h2
                      case refine_5 =>
                        rintro D xs C6 w22 hS ⟨rfl, h1, h2⟩ hcm hf rfl hD hsz
                        have htot : wsum xs = (X.size : Int) := by
                          have h3 := HPT.out.total
                          rw [wsum_eq (by rw [hS, h3]; omega), hS, h3]
                        rw [htot] at h1
                        have HBF := HB21.out.trans (hcm.below (n := w.heap.size) (by have := HB21.out.size; omega) (fun k hk => by have hk : k = w20.heap.size := hk; have := HB20.out.size; omega))
                        have bf : Below w.heap.size w (w22.putObj w21.heap.size (.deferred none)) :=
                          ⟨HBF.os, HBF.tape, HBF.output, by simp only [World.putObj_size]; exact HBF.size, fun k hk => (World.putObj_heap_other (by have := HB21.out.size; omega)).trans (HBF.block k hk)⟩
                        clear htot HBF hcm hf hS
                        by_cases hcmp : X = T
                        · subst hcmp
                          gi_wp2
                          refine ⟨by simp, .inl ⟨_, _, rfl, run_takeDeferred hD, ?_⟩⟩
                          refine ⟨.bool true, ?_, rfl, bf⟩
                          simp [results, Tryz.results3, go_sem]
                        · have hcn := bytes_neK hcmp
                          gi_wp2
                          refine ⟨by simp, .inl ⟨_, _, rfl, run_takeDeferred hD, ?_⟩⟩
                          refine ⟨.bool true, ?_, rfl, bf⟩
                          simp [results, Tryz.results3, go_sem]
                  · skip
                    have LD := Lib.hid (loadk_some (HG.out.next HB6.out) D6.out (t := T) HPT.out.size KC)
                    have htz := HPT.out.size
                    gi_wp2_with fail
                    refine (callsIn_wide.2 LD.out).mono ?_
                    rintro e w20 ⟨rfl, hb20⟩
                    have HB20 := Lib.hid (HB6.out.trans (hb20.mono HB6.out.size))
                    clear LD hb20
                    gi_wp2_with fail
                    have hbn : Below w20.heap.size w20 (w20.alloc (.cells #[.int .i64 0] 3)) := (Below.refl _ _).alloc (Nat.le_refl _) _
                    refine (callsIn_wide.2 (things_callK T _)).mono ?_
                    rintro e w21 ⟨bs, rfl, hbs0, hbs1, hb21⟩
                    have cn21 : w21.cell? ⟨w20.heap.size, 0, none⟩ = some (.int .i64 (wsum [])) := (hb21.cell (p := ⟨w20.heap.size, 0, none⟩) (by simp)).trans (by simp [go_sem, wsum])
                    have fn21 : w21.frozen? ⟨w20.heap.size, 0, none⟩ = false := (hb21.frozen (p := ⟨w20.heap.size, 0, none⟩) (by simp)).trans (by simp [go_sem])
                    have HB21 := Lib.hid (HB20.out.trans ((hbn.trans (hb21.mono (by simp))).mono HB20.out.size))
                    have hz21 : w20.heap.size + 1 ≤ w21.heap.size := by have := hb21.size; simp at this; omega
                    have hbs21 : bs < w21.heap.size := World.block_lt_of_cell? _ _ hbs1
                    have hbs2 : w20.heap.size + 1 ≤ bs := by simpa using hbs0
                    clear hbn hb21
                    gi_wp2_with fail
                    refine Pk.wpIn_rangeC (F := Fence.wide) rfl (by omega) (gf := 30) (lb := #[.pointer (some ⟨bs, 0, none⟩)]) rfl trivial (enters_of Tryz.func30 (by kernel_rfl) rfl)
                      (Pk.things_seq T (by omega) bs _ (by omega) w21 hbs1) (Below.refl _ _) (fun _ => rfl) (fun k => k = w20.heap.size) (fun k hk hc => by subst hk; omega) (fun k hk => by subst hk; exact hbs21) (fun k hc => by omega)
                      (fun (pre : List (Nat × ByteArray)) C W => C = (fun k => k = w20.heap.size) ∧ W.cell? ⟨w20.heap.size, 0, none⟩ = some (.int .i64 (wsum pre)) ∧ W.frozen? ⟨w20.heap.size, 0, none⟩ = false) (fun _ _ _ _ => False) ?_ (fun _ _ _ _ _ h _ => h) ⟨rfl, cn21, fn21⟩ ?_ ?_ ?_ ?_ ?_
                    case refine_1 =>
                      rintro pre C A B ⟨rfl, h1, h2⟩ hs
                      exact ⟨rfl, (hs.cell (p := ⟨w20.heap.size, 0, none⟩) rfl).trans h1, (hs.frozen (p := ⟨w20.heap.size, 0, none⟩) rfl).trans h2⟩
                    case refine_3 =>
                      intro l' x W K hK
                      gi_wp2
                      exact hK
                    case refine_6 => rintro D c pre C W _ h; exact h.elim
                    case refine_4 =>
                      rintro l' pre x C W ⟨rfl, h1, h2⟩ hcm hf hlen
                      have hW := World.block_lt_of_cell? _ _ h1
                      have hws := wsum_snoc pre x
                      generalize wsum pre = sm at *
                      gi_wp2
                      refine ⟨fun k => k = w20.heap.size, fun k hk => Or.inl hk, fun k hk => by rw [World.size_setCell, show k = w20.heap.size from hk]; exact hW, ⟨rfl, rfl, rfl, Nat.le_of_eq (World.size_setCell _ _ _).symm, fun k _ hn => Below.heap_setCell W ⟨w20.heap.size, 0, none⟩ _ k hn⟩, rfl, ?_, ?_⟩
                      · rw [hws]
                        exact World.cell?_setCell_same' _ _ _ (by rw [h1]; rfl)
                      · rw [World.frozen?_setCell]; exact h2
                    case refine_5 =>
                      rintro D xs C6 w22 hS ⟨rfl, h1, h2⟩ hcm hf rfl hD hsz
                      have htot : wsum xs = (T.size : Int) := by
                        have h3 := HPT.out.total
                        rw [wsum_eq (by rw [hS, h3]; omega), hS, h3]
                      rw [htot] at h1
                      have HBF := HB21.out.trans (hcm.below (n := w.heap.size) (by have := HB21.out.size; omega) (fun k hk => by have hk : k = w20.heap.size := hk; have := HB20.out.size; omega))
                      have bf : Below w.heap.size w (w22.putObj w21.heap.size (.deferred none)) :=
                        ⟨HBF.os, HBF.tape, HBF.output, by simp only [World.putObj_size]; exact HBF.size, fun k hk => (World.putObj_heap_other (by have := HB21.out.size; omega)).trans (HBF.block k hk)⟩
                      clear htot HBF hcm hf hS
                      gi_wp2
                      refine ⟨by simp, .inl ⟨_, _, rfl, run_takeDeferred hD, ?_⟩⟩
                      refine ⟨.bool true, ?_, rfl, bf⟩
                      simp [results, Tryz.results3, go_sem]
                · have kd : decide ((20 : Int) < (ks.length : Int)) = true := by simp; omega
                  clear HX D5
                  gi_wp2
                  refine ⟨.bool true, ?_, rfl, HO5.out.fb (Nat.le_refl _)⟩
                  simp [results, Tryz.results3, go_sem]
    · skip
      have hgx : (i = ls.length) ∨ (i < ls.length ∧ i = 8) := by omega
      obtain ⟨d, K, D, O⟩ := HK.out
      have HB6 := Lib.hid (O.fb (Nat.le_refl _))
      have D6 := Lib.hid D
      have KC := Lib.hid K
      clear HK K D O hgo
      rcases hgx with hx1 | ⟨hx1, hx2⟩
      all_goals
        cases y
        · have hX0 := hy rfl
          subst hX0
          have LD := Lib.hid (loadk_none D6.out KC.out)
          gi_wp2_with fail
          refine (callsIn_wide.2 LD.out).mono ?_
          rintro e w20 ⟨rfl, hb20⟩
          have HB20 := Lib.hid (HB6.out.trans (hb20.mono HB6.out.size))
          clear LD hb20
          gi_wp2
          refine ⟨.bool true, ?_, rfl, HB20.out⟩
          simp [results, Tryz.results3, go_sem]
        · have HPT := HPX
          have LD := Lib.hid (loadk_some (HG.out.next HB6.out) D6.out (t := X) HPT.out.size KC.out)
          have htz := HPT.out.size
          gi_wp2_with fail
          refine (callsIn_wide.2 LD.out).mono ?_
          rintro e w20 ⟨rfl, hb20⟩
          have HB20 := Lib.hid (HB6.out.trans (hb20.mono HB6.out.size))
          clear LD hb20
          gi_wp2_with fail
          have hbn : Below w20.heap.size w20 (w20.alloc (.cells #[.int .i64 0] 3)) := (Below.refl _ _).alloc (Nat.le_refl _) _
          refine (callsIn_wide.2 (things_callK X _)).mono ?_
          rintro e w21 ⟨bs, rfl, hbs0, hbs1, hb21⟩
          have cn21 : w21.cell? ⟨w20.heap.size, 0, none⟩ = some (.int .i64 (wsum [])) := (hb21.cell (p := ⟨w20.heap.size, 0, none⟩) (by simp)).trans (by simp [go_sem, wsum])
          have fn21 : w21.frozen? ⟨w20.heap.size, 0, none⟩ = false := (hb21.frozen (p := ⟨w20.heap.size, 0, none⟩) (by simp)).trans (by simp [go_sem])
          have HB21 := Lib.hid (HB20.out.trans ((hbn.trans (hb21.mono (by simp))).mono HB20.out.size))
          have hz21 : w20.heap.size + 1 ≤ w21.heap.size := by have := hb21.size; simp at this; omega
          have hbs21 : bs < w21.heap.size := World.block_lt_of_cell? _ _ hbs1
          have hbs2 : w20.heap.size + 1 ≤ bs := by simpa using hbs0
          clear hbn hb21
          gi_wp2_with fail
          refine Pk.wpIn_rangeC (F := Fence.wide) rfl (by omega) (gf := 30) (lb := #[.pointer (some ⟨bs, 0, none⟩)]) rfl trivial (enters_of Tryz.func30 (by kernel_rfl) rfl)
            (Pk.things_seq X (by omega) bs _ (by omega) w21 hbs1) (Below.refl _ _) (fun _ => rfl) (fun k => k = w20.heap.size) (fun k hk hc => by subst hk; omega) (fun k hk => by subst hk; exact hbs21) (fun k hc => by omega)
            (fun (pre : List (Nat × ByteArray)) C W => C = (fun k => k = w20.heap.size) ∧ W.cell? ⟨w20.heap.size, 0, none⟩ = some (.int .i64 (wsum pre)) ∧ W.frozen? ⟨w20.heap.size, 0, none⟩ = false) (fun _ _ _ _ => False) ?_ (fun _ _ _ _ _ h _ => h) ⟨rfl, cn21, fn21⟩ ?_ ?_ ?_ ?_ ?_
          case refine_1 =>
            rintro pre C A B ⟨rfl, h1, h2⟩ hs
            exact ⟨rfl, (hs.cell (p := ⟨w20.heap.size, 0, none⟩) rfl).trans h1, (hs.frozen (p := ⟨w20.heap.size, 0, none⟩) rfl).trans h2⟩
          case refine_3 =>
            intro l' x W K hK
            gi_wp2
            exact hK
          case refine_6 => rintro D c pre C W _ h; exact h.elim
          case refine_4 =>
            rintro l' pre x C W ⟨rfl, h1, h2⟩ hcm hf hlen
            have hW := World.block_lt_of_cell? _ _ h1
            have hws := wsum_snoc pre x
            generalize wsum pre = sm at *
            gi_wp2
            refine ⟨fun k => k = w20.heap.size, fun k hk => Or.inl hk, fun k hk => by rw [World.size_setCell, show k = w20.heap.size from hk]; exact hW, ⟨rfl, rfl, rfl, Nat.le_of_eq (World.size_setCell _ _ _).symm, fun k _ hn => Below.heap_setCell W ⟨w20.heap.size, 0, none⟩ _ k hn⟩, rfl, ?_, ?_⟩
            · rw [hws]
              exact World.cell?_setCell_same' _ _ _ (by rw [h1]; rfl)
            · rw [World.frozen?_setCell]; exact h2
          case refine_5 =>
            rintro D xs C6 w22 hS ⟨rfl, h1, h2⟩ hcm hf rfl hD hsz
            have htot : wsum xs = (X.size : Int) := by
              have h3 := HPT.out.total
              rw [wsum_eq (by rw [hS, h3]; omega), hS, h3]
            rw [htot] at h1
            have HBF := HB21.out.trans (hcm.below (n := w.heap.size) (by have := HB21.out.size; omega) (fun k hk => by have hk : k = w20.heap.size := hk; have := HB20.out.size; omega))
            have bf : Below w.heap.size w (w22.putObj w21.heap.size (.deferred none)) :=
              ⟨HBF.os, HBF.tape, HBF.output, by simp only [World.putObj_size]; exact HBF.size, fun k hk => (World.putObj_heap_other (by have := HB21.out.size; omega)).trans (HBF.block k hk)⟩
            clear htot HBF hcm hf hS
            gi_wp2
            refine ⟨by simp, .inl ⟨_, _, rfl, run_takeDeferred hD, ?_⟩⟩
            refine ⟨.bool true, ?_, rfl, bf⟩
            simp [results, Tryz.results3, go_sem]
end Go.Proofs.YtjlkdglbnfifeaaGreatDoor
