/-
 THE WALK of the law ParseOrder: two numbers that name signs.
-/
import Derived.Test.YtmbfdkiejneheaaGreatDoorPaOrE
namespace Go.Proofs.YtmbfdkiejneheaaGreatDoor
open Go.RowKit

set_option maxHeartbeats 8000000 in
set_option maxRecDepth 100000 in
theorem order_ok (i j : Nat) (hi : i < 10) (hj : j < 10) (hno : ¬ (i = 3 ∧ j = 3)) {o1 x1 : List UInt8} {p1 : Nat} {o2 x2 : List UInt8} {p2 : Nat} {o3 x3 : List UInt8} {p3 : Nat} {o4 x4 : List UInt8} {p4 : Nat} {t : PT} (hp : parseL (ordS i j) = .ok (.mk o1 x1 p1 [.mk o2 x2 p2 [.mk o3 x3 p3 [.mk o4 x4 p4 [t]]]])) (hf : fl t = wantO i j) (w : World) (htab : Tabs w) :
  Calls Tryz.prog 8 #[.int .i64 (i : Int), .int .i64 (j : Int)] w fun e w' => e = .returned (.bool true) ∧ Below w.heap.size w w' := by
 have AW := kH fun W (hW : Below w.heap.size w W) => awake_any W (htab.next hW)
 have HB0 := kH (Below.refl w.heap.size w)
 have HB1 := kH (((HB0.out.alloc (Nat.le_refl _) (.cells #[.string ⟨#[124, 124]⟩, .string ⟨#[38, 38]⟩, .string ⟨#[126]⟩, .string ⟨#[60]⟩, .string ⟨#[43]⟩, .string ⟨#[42]⟩, .string ⟨#[45]⟩, .string ⟨#[47]⟩, .string ⟨#[37]⟩, .string ⟨#[33, 126]⟩] 9)).alloc (by simp) (.cells #[.int .i64 1, .int .i64 2, .int .i64 3, .int .i64 4, .int .i64 5, .int .i64 6, .int .i64 5, .int .i64 6, .int .i64 6, .int .i64 3] 3)).alloc (by simp only [World.size_alloc]; omega) (.cells #[.string ⟨#[111, 114]⟩, .string ⟨#[97, 110, 100]⟩, .string ⟨#[109, 97, 116, 99, 104]⟩, .string ⟨#[108, 101, 115, 115]⟩, .string ⟨#[97, 100, 100]⟩, .string ⟨#[109, 117, 108]⟩, .string ⟨#[115, 117, 98]⟩, .string ⟨#[100, 105, 118]⟩, .string ⟨#[109, 111, 100]⟩, .string ⟨#[110, 111, 109, 97, 116, 99, 104]⟩] 9))
 have HV := kH fun s W => var_any s W
 have hi2 : (i : Int) < 10 := by omega
 have hj2 : (j : Int) < 10 := by omega
 have hi0 : (0 : Int) ≤ (i : Int) := by omega
 have hj0 : (0 : Int) ≤ (j : Int) := by omega
 clear htab
 go_enter Tryz.func8, Tryz.ntmps8
 have HL := kH (Ls.new w)
 go_wp2
 generalize ((w.alloc (.cells #[.string ⟨#[124, 124]⟩, .string ⟨#[38, 38]⟩, .string ⟨#[126]⟩, .string ⟨#[60]⟩, .string ⟨#[43]⟩, .string ⟨#[42]⟩, .string ⟨#[45]⟩, .string ⟨#[47]⟩, .string ⟨#[37]⟩, .string ⟨#[33, 126]⟩] 9)).alloc (.cells #[.int .i64 1, .int .i64 2, .int .i64 3, .int .i64 4, .int .i64 5, .int .i64 6, .int .i64 5, .int .i64 6, .int .i64 6, .int .i64 3] 3)).alloc (.cells #[.string ⟨#[111, 114]⟩, .string ⟨#[97, 110, 100]⟩, .string ⟨#[109, 97, 116, 99, 104]⟩, .string ⟨#[108, 101, 115, 115]⟩, .string ⟨#[97, 100, 100]⟩, .string ⟨#[109, 117, 108]⟩, .string ⟨#[115, 117, 98]⟩, .string ⟨#[100, 105, 118]⟩, .string ⟨#[109, 111, 100]⟩, .string ⟨#[110, 111, 109, 97, 116, 99, 104]⟩] 9) = w1 at *
 have hli := sg_len hi
 have hlj := sg_len hj
 have q1 : ¬ 9223372036854775807 < 8 + (sg i).length := by omega
 have q2 : ¬ 9223372036854775807 < 8 + (sg i).length + 3 := by omega
 have q3 : ¬ 9223372036854775807 < 8 + (sg i).length + 3 + (sg j).length := by omega
 have q4 : ¬ 9223372036854775807 < 8 + (sg i).length + 3 + (sg j).length + 3 := by omega
 have CP := kH fun W => parse_any (ordB i j) W (by have := ordB_size hi hj; omega)
 rw [ordB_eq] at CP
 unfold ordB at CP
 have h33 : ((i : Int) == 3) = false ∨ (((i : Int) == 3) = true ∧ ((j : Int) == 3) = false) := by
  by_cases h : i = 3
  · exact .inr ⟨by simp [h], by rw [beq_eq_false_iff_ne]; omega⟩
  · exact .inl (by rw [beq_eq_false_iff_ne]; omega)
 rcases h33 with h33 | ⟨h33, h34⟩
 all_goals
  rw [hp] at CP
  have HNO := kH hno
  have HF := kH hf
  clear hno hf hp
  refine via_read (fun v8 v9 v10 W => ∃ gn n, v8 = .pointer (some ⟨gn, 0, none⟩) ∧ v9 = .int .i64 0 ∧ v10 = .int .i64 0 ∧ BlkA W gn n ∧ TreeP W (fun k => w.heap.size ≤ k ∧ k ≠ gn) (.mk o1 x1 p1 [.mk o2 x2 p2 [.mk o3 x3 p3 [.mk o4 x4 p4 [t]]]]) n ∧ Ls W w.heap.size ∧ Below w.heap.size w W) (fun Q' hNP hQ' => ?_) ?_
  ·
   simp only [nrm] at hQ'
   have HQ := kH hQ'
   have HNP := kH hNP
   clear hQ' hNP
   have HLD := kH HL.out.drew
   refine wp_region_L (st := [20]) (S := fun Z => Ls Z w.heap.size) (by kernel_rfl) (HL.out.drew) (fun hHeld => ?_)
   have HB1 := kH HB1.out.drew
   generalize w1.drew = wd at *
   refine tkL 0 (hQ := fun c _ _ h => absurd h (HNP.out c _ _)) (v := ?_) rfl ?_ ?_
   rotate_left
   · (intro w hSw; go_simp; try with_reducible rfl)
   try simp only [nrm]
   refine tkL 1 (hQ := fun c _ _ h => absurd h (HNP.out c _ _)) (v := ?_) rfl ?_ ?_
   rotate_left
   · (intro w hSw; go_simp; try with_reducible rfl)
   try simp only [nrm]
   refine tkL 2 (hQ := fun c _ _ h => absurd h (HNP.out c _ _)) (v := ?_) rfl ?_ ?_
   rotate_left
   · (intro w hSw; go_simp; try with_reducible rfl)
   try simp only [nrm]
   refine tkL 3 (hQ := fun c _ _ h => absurd h (HNP.out c _ _)) (v := ?_) rfl ?_ ?_
   rotate_left
   · (intro w hSw; obtain ⟨hsi, hsj, hoi, hoj⟩ := hSw.at hi hj; go_simp; try with_reducible rfl)
   try simp only [nrm]
   refine tkL 4 (hQ := fun c _ _ h => absurd h (HNP.out c _ _)) (v := ?_) rfl ?_ ?_
   rotate_left
   · (intro w hSw; go_simp; try with_reducible rfl)
   try simp only [nrm]
   refine tkL 5 (hQ := fun c _ _ h => absurd h (HNP.out c _ _)) (v := ?_) rfl ?_ ?_
   rotate_left
   · (intro w hSw; go_simp; try with_reducible rfl)
   try simp only [nrm]
   refine tkL 6 (hQ := fun c _ _ h => absurd h (HNP.out c _ _)) (v := ?_) rfl ?_ ?_
   rotate_left
   · (intro w hSw; go_simp; try with_reducible rfl)
   try simp only [nrm]
   refine tkL 7 (hQ := fun c _ _ h => absurd h (HNP.out c _ _)) (v := ?_) rfl ?_ ?_
   rotate_left
   · (intro w hSw; go_simp; try with_reducible rfl)
   try simp only [nrm]
   refine tkL 8 (hQ := fun c _ _ h => absurd h (HNP.out c _ _)) (v := ?_) rfl ?_ ?_
   rotate_left
   · (intro w hSw; go_simp; try with_reducible rfl)
   try simp only [nrm]
   refine tkL 9 (hQ := fun c _ _ h => absurd h (HNP.out c _ _)) (v := ?_) rfl ?_ ?_
   rotate_left
   · (intro w hSw; obtain ⟨hsi, hsj, hoi, hoj⟩ := hSw.at hi hj; go_simp; try with_reducible rfl)
   try simp only [nrm]
   refine tkL 10 (hQ := fun c _ _ h => absurd h (HNP.out c _ _)) (v := ?_) rfl ?_ ?_
   rotate_left
   · (intro w hSw; go_simp; try with_reducible rfl)
   try simp only [nrm]
   refine tkL 11 (hQ := fun c _ _ h => absurd h (HNP.out c _ _)) (v := ?_) rfl ?_ ?_
   rotate_left
   · (intro w hSw; go_simp; try with_reducible rfl)
   try simp only [nrm]
   refine wpAnyL_ready (rs := [12, 17]) (by kernel_rfl) (by simp) ?_
   refine AllReadyL.cons (o := _) rfl (fun K2 hK => ?_) (AllReadyL.cons (o := _) rfl (fun K2 hK => ?_) AllReadyL.nil)
   ·
    go_simp
    refine (CP.out _).mono ?_
    rintro e w2 ⟨hb2, n, rfl, tr2⟩
    have HT2 := kH tr2
    clear tr2
    unfold An.val
    have HL2 := kH (hHeld.kept hb2)
    have HB2 := kH (HB1.out.trans (hb2.mono HB1.out.size))
    clear hb2
    refine hK.out _ _ (HL2.out) (fun hHeld => ?_)
    clear hK K2
    try simp only [nrm]
    refine tkL 13 (hQ := fun c _ _ h => absurd h (HNP.out c _ _)) (v := ?_) rfl ?_ ?_
    rotate_left
    · (intro w hSw; go_simp; try with_reducible rfl)
    try simp only [nrm]
    refine tkL 14 (hQ := fun c _ _ h => absurd h (HNP.out c _ _)) (v := ?_) rfl ?_ ?_
    rotate_left
    · (intro w hSw; go_simp; try with_reducible rfl)
    try simp only [nrm]
    refine tkL 15 (hQ := fun c _ _ h => absurd h (HNP.out c _ _)) (v := ?_) rfl ?_ ?_
    rotate_left
    · (intro w hSw; go_simp; try with_reducible rfl)
    try simp only [nrm]
    refine tkL 16 (hQ := fun c _ _ h => absurd h (HNP.out c _ _)) (v := ?_) rfl ?_ ?_
    rotate_left
    · (intro w hSw; go_simp; try with_reducible rfl)
    try simp only [nrm]
    refine rdL 17 rfl (fun K2 hK => ?_)
    go_simp
    refine hK.out _ _ (HL2.out.alloc _) (fun hHeld => ?_)
    clear hK K2
    try simp only [nrm]
    have HN2 := kH (BlkA.new0 w2)
    have HG : Hid (w.heap.size + 1 + 1 < w2.heap.size ∧ w.heap.size ≤ w2.heap.size) := kH ⟨HL2.out.lt, by have := HL2.out.lt; omega⟩
    have HT2 := kH ((HT2.out.kept' (B' := fun k => w.heap.size ≤ k ∧ k ≠ w2.heap.size) (fun _ _ _ => rfl) (fun k hk hl => ⟨Nat.le_trans HB1.out.size hk, by omega⟩)).below ((Below.refl _ _).alloc (Nat.le_refl _) zN))
    have HL2 := kH (HL2.out.alloc zN)
    have HB2 := kH (HB2.out.alloc HB2.out.size zN)
    generalize w2.alloc zN = w3 at *
    generalize w2.heap.size = gn at *
    refine rdL 18 rfl (fun K2 hK => ?_)
    obtain ⟨z0, z1, z2, z3, zk0, zk1, zk2, zk3⟩ := HN2.out.cells
    go_simp
    have HP1 : Hid (Ls (putA w3 gn n) w.heap.size) := kH (HL2.out.put HG.out.1 n)
    refine hK.out _ _ (HP1.out) (fun hHeld => ?_)
    clear hK K2
    try simp only [nrm]
    refine rdL 19 rfl (fun K2 hK => ?_)
    go_simp
    refine hK.out _ _ (HP1.out) (fun hHeld => ?_)
    clear hK K2
    try simp only [nrm]
    refine wpAnyL_ready (rs := [20]) (by kernel_rfl) (by simp) ?_
    refine AllReadyL.store (o := _) rfl (by decide) (by decide) (fun K2 hK => ?_) AllReadyL.nil
    go_simp
    refine hK.out _ _ ?_
    clear hK K2
    try simp only
    refine wpAnyL_done (by kernel_rfl) ?_ _
    exact HQ.out _ _ _ _ _ _ _ _ _ _ _ _ _ _ _ _ _ _ _ _ (putA w3 gn n) ⟨gn, n, rfl, rfl, rfl, HN2.out.putA n, HT2.out.putA (g := gn) (fun k hk _ => hk.2) n, HP1.out, below_putA HB2.out HG.out.2 n⟩
   ·
    go_simp
    refine hK.out _ _ (hHeld.alloc _) (fun hHeld => ?_)
    clear hK K2
    try simp only [nrm]
    have HN1 := kH (BlkA.new0 wd)
    have HG : Hid (w.heap.size + 1 + 1 < wd.heap.size ∧ w.heap.size ≤ wd.heap.size) := kH ⟨HLD.out.lt, by have := HLD.out.lt; omega⟩
    have HB1 := kH (HB1.out.alloc HB1.out.size zN)
    have HZ : Hid (wd.heap.size < (wd.alloc zN).heap.size) := kH (by simp)
    generalize wd.alloc zN = we at *
    generalize wd.heap.size = gn at *
    refine rdL 12 rfl (fun K2 hK => ?_)
    go_simp
    refine (CP.out _).mono ?_
    rintro e w2 ⟨hb2, n, rfl, tr2⟩
    have HT2 := kH tr2
    clear tr2
    unfold An.val
    have HL2 := kH (hHeld.kept hb2)
    have HB2 := kH (HB1.out.trans (hb2.mono HB1.out.size))
    have HN2 := kH (HN1.out.below hb2)
    clear hb2 HN1
    have HT2 := kH (HT2.out.kept' (B' := fun k => w.heap.size ≤ k ∧ k ≠ gn) (fun _ _ _ => rfl) (fun k hk hl => ⟨Nat.le_trans HB1.out.size hk, by have := HZ.out; omega⟩))
    refine hK.out _ _ (HL2.out) (fun hHeld => ?_)
    clear hK K2
    try simp only [nrm]
    refine tkL 13 (hQ := fun c _ _ h => absurd h (HNP.out c _ _)) (v := ?_) rfl ?_ ?_
    rotate_left
    · (intro w hSw; go_simp; try with_reducible rfl)
    try simp only [nrm]
    refine tkL 14 (hQ := fun c _ _ h => absurd h (HNP.out c _ _)) (v := ?_) rfl ?_ ?_
    rotate_left
    · (intro w hSw; go_simp; try with_reducible rfl)
    try simp only [nrm]
    refine tkL 15 (hQ := fun c _ _ h => absurd h (HNP.out c _ _)) (v := ?_) rfl ?_ ?_
    rotate_left
    · (intro w hSw; go_simp; try with_reducible rfl)
    try simp only [nrm]
    refine tkL 16 (hQ := fun c _ _ h => absurd h (HNP.out c _ _)) (v := ?_) rfl ?_ ?_
    rotate_left
    · (intro w hSw; go_simp; try with_reducible rfl)
    try simp only [nrm]
    generalize hw3 : w2 = w3 at *
    clear hw3
    refine rdL 18 rfl (fun K2 hK => ?_)
    obtain ⟨z0, z1, z2, z3, zk0, zk1, zk2, zk3⟩ := HN2.out.cells
    go_simp
    have HP1 : Hid (Ls (putA w3 gn n) w.heap.size) := kH (HL2.out.put HG.out.1 n)
    refine hK.out _ _ (HP1.out) (fun hHeld => ?_)
    clear hK K2
    try simp only [nrm]
    refine rdL 19 rfl (fun K2 hK => ?_)
    go_simp
    refine hK.out _ _ (HP1.out) (fun hHeld => ?_)
    clear hK K2
    try simp only [nrm]
    refine wpAnyL_ready (rs := [20]) (by kernel_rfl) (by simp) ?_
    refine AllReadyL.store (o := _) rfl (by decide) (by decide) (fun K2 hK => ?_) AllReadyL.nil
    go_simp
    refine hK.out _ _ ?_
    clear hK K2
    try simp only
    refine wpAnyL_done (by kernel_rfl) ?_ _
    exact HQ.out _ _ _ _ _ _ _ _ _ _ _ _ _ _ _ _ _ _ _ _ (putA w3 gn n) ⟨gn, n, rfl, rfl, rfl, HN2.out.putA n, HT2.out.putA (g := gn) (fun k hk _ => hk.2) n, HP1.out, below_putA HB2.out HG.out.2 n⟩
  ·
   intro v35 v36 v37 v38 v39 v40 v41 v42 v43 v44 v45 v46 v47 v34 v48 v49 v50 v8 v9 v10 w4 ⟨gn, n, h8, h9, h10, hn4, ht4, hl4, hb4⟩
   try simp only [nrm]
   subst h8 h9 h10
   obtain ⟨g1, c1, m1, rfl, hc1, hl1, hb1, ht1⟩ := ht4.only
   obtain ⟨g2, c2, m2, rfl, hc2, hl2, hb2, ht2⟩ := ht1.only
   obtain ⟨g3, c3, m3, rfl, hc3, hl3, hb3, ht3⟩ := ht2.only
   obtain ⟨g4, c4, m4, rfl, hc4, hl44, hb44, ht44⟩ := ht3.only
   have HN4 := kH hn4
   have HL4 := kH hl4
   have HB4 := kH hb4
   have HC := kH (And.intro hc1 (And.intro hc2 (And.intro hc3 hc4)))
   have HLT := kH (And.intro hl1 (And.intro hl2 (And.intro hl3 hl44)))
   have HT4 := kH ht44
   clear hc1 hc2 hc3 hc4 hl1 hl2 hl3 hl44 ht1 ht2 ht3 ht44 ht4 hn4 hl4 hb4 hb1 hb2 hb3 hb44
   obtain ⟨nx, hvx, htx⟩ := varx 120
   obtain ⟨ny, hvy, hty⟩ := varx 121
   obtain ⟨nz, hvz, htz⟩ := varx 122
   have HVX := kH hvx
   have HVY := kH hvy
   have HVZ := kH hvz
   have HTX := kH htx
   have HTY := kH hty
   have HTZ := kH htz
   clear hvx hvy hvz htx hty htz HV
   obtain ⟨v0, v1, v2, v3, vk0, vk1, vk2, vk3⟩ := HN4.out.cells
   go_wp2
   clear v0 v1 v2 v3 vk0 vk1 vk2 vk3
   refine via_want (fun v11 W => ∃ gw nw, v11 = .pointer (some ⟨gw, 0, none⟩) ∧ BlkA W gw nw ∧ TreeP W (fun k => w4.heap.size ≤ k ∧ k ≠ gw) (nd (opO j) [nd (opO i) [vr 120, vr 121], vr 122]) nw ∧ w4.heap.size ≤ gw ∧ Below w4.heap.size w4 W) (fun Q' hNP hQ' => ?_) ?_
   ·
    simp only [nrm] at hQ'
    have HQ := kH hQ'
    have HNP := kH hNP
    clear hQ' hNP
    refine wp_region_L (st := [16]) (S := fun Z => Ls Z w.heap.size) (by kernel_rfl) (HL4.out.drew) (fun hHeld => ?_)
    obtain ⟨b0, hb0⟩ : ∃ b, w4.heap.size = b := ⟨_, rfl⟩
    have HP : Hid (Cy w4 b0 w.heap.size w4.drew) := kH ⟨HL4.out.drew, hb0 ▸ (Below.refl w4.heap.size w4).drew, Nat.le_of_eq hb0.symm⟩
    rw [hb0] at HQ
    have HBO := kH hb0
    clear hb0
    generalize w4.drew = u0 at *
    refine tkL 0 (hQ := fun c _ _ h => absurd h (HNP.out c _ _)) (v := ?_) rfl ?_ ?_
    rotate_left
    · (intro w hSw; go_simp; try with_reducible rfl)
    try simp only [nrm]
    refine tkL 1 (hQ := fun c _ _ h => absurd h (HNP.out c _ _)) (v := ?_) rfl ?_ ?_
    rotate_left
    · (intro w hSw; go_simp; try with_reducible rfl)
    try simp only [nrm]
    refine tkL 2 (hQ := fun c _ _ h => absurd h (HNP.out c _ _)) (v := ?_) rfl ?_ ?_
    rotate_left
    · (intro w hSw; go_simp; try with_reducible rfl)
    try simp only [nrm]
    refine tkL 3 (hQ := fun c _ _ h => absurd h (HNP.out c _ _)) (v := ?_) rfl ?_ ?_
    rotate_left
    · (intro w hSw; obtain ⟨hsi, hsj, hoi, hoj⟩ := hSw.at hi hj; go_simp; try with_reducible rfl)
    try simp only [nrm]
    refine tkL 4 (hQ := fun c _ _ h => absurd h (HNP.out c _ _)) (v := ?_) rfl ?_ ?_
    rotate_left
    · (intro w hSw; go_simp; try with_reducible rfl)
    try simp only [nrm]
    refine tkL 5 (hQ := fun c _ _ h => absurd h (HNP.out c _ _)) (v := ?_) rfl ?_ ?_
    rotate_left
    · (intro w hSw; go_simp; try with_reducible rfl)
    try simp only [nrm]
    refine tkL 6 (hQ := fun c _ _ h => absurd h (HNP.out c _ _)) (v := ?_) rfl ?_ ?_
    rotate_left
    · (intro w hSw; go_simp; try with_reducible rfl)
    try simp only [nrm]
    refine tkL 7 (hQ := fun c _ _ h => absurd h (HNP.out c _ _)) (v := ?_) rfl ?_ ?_
    rotate_left
    · (intro w hSw; obtain ⟨hsi, hsj, hoi, hoj⟩ := hSw.at hi hj; go_simp; try with_reducible rfl)
    try simp only [nrm]
    refine wpAnyL_ready (rs := [8, 15]) (by kernel_rfl) (by simp) ?_
    refine AllReadyL.cons (o := _) rfl (fun K2 hK => ?_) (AllReadyL.cons (o := _) rfl (fun K2 hK => ?_) AllReadyL.nil)
    ·
     go_simp
     refine (HVX.out _).mono ?_
     rintro e u1 ⟨rfl, hb⟩
     replace HP := kH (HP.out.step hb)
     clear hb
     unfold An.val
     refine hK.out _ _ (HP.out.l) (fun hHeld => ?_)
     clear hK K2
     try simp only [nrm]
     refine wpAnyL_ready (rs := [9, 15]) (by kernel_rfl) (by simp) ?_
     refine AllReadyL.cons (o := _) rfl (fun K2 hK => ?_) (AllReadyL.cons (o := _) rfl (fun K2 hK => ?_) AllReadyL.nil)
     ·
      go_simp
      refine (HVY.out _).mono ?_
      rintro e u2 ⟨rfl, hb⟩
      replace HP := kH (HP.out.step hb)
      clear hb
      unfold An.val
      refine hK.out _ _ (HP.out.l) (fun hHeld => ?_)
      clear hK K2
      try simp only [nrm]
      refine wpAnyL_ready (rs := [10, 12, 15]) (by kernel_rfl) (by simp) ?_
      refine AllReadyL.cons (o := _) rfl (fun K2 hK => ?_) (AllReadyL.cons (o := _) rfl (fun K2 hK => ?_) (AllReadyL.cons (o := _) rfl (fun K2 hK => ?_) AllReadyL.nil))
      ·
       go_simp
       have HT10 : Hid (TreeP (u2.alloc (nB2 nx ny)) (fun k => b0 ≤ k) (nd (opO i) [vr 120, vr 121]) ⟨bs (opO i), ⟨#[]⟩, 0, some ⟨u2.heap.size, 0, none⟩, 2, 2⟩) := kH (TreeP.two (HTX.out _ _) (HTY.out _ _) HP.out.s (opO i))
       replace HP := kH (HP.out.new (nB2 nx ny))
       refine hK.out _ _ (HP.out.l) (fun hHeld => ?_)
       clear hK K2
       try simp only [nrm]
       generalize u2.alloc (nB2 nx ny) = u3 at *
       generalize u2.heap.size = g10 at *
       refine tkL 11 (hQ := fun c _ _ h => absurd h (HNP.out c _ _)) (v := ?_) rfl ?_ ?_
       rotate_left
       · (intro w hSw; go_simp; try with_reducible rfl)
       try simp only [nrm]
       refine wpAnyL_ready (rs := [12, 15]) (by kernel_rfl) (by simp) ?_
       refine AllReadyL.cons (o := _) rfl (fun K2 hK => ?_) (AllReadyL.cons (o := _) rfl (fun K2 hK => ?_) AllReadyL.nil)
       ·
        go_simp
        refine (HVZ.out _).mono ?_
        rintro e u4 ⟨rfl, hb⟩
        replace HP := kH (HP.out.step hb)
        replace HT10 := kH (HT10.out.below hb)
        clear hb
        unfold An.val
        refine hK.out _ _ (HP.out.l) (fun hHeld => ?_)
        clear hK K2
        try simp only [nrm]
        refine wpAnyL_ready (rs := [13, 15]) (by kernel_rfl) (by simp) ?_
        refine AllReadyL.cons (o := _) rfl (fun K2 hK => ?_) (AllReadyL.cons (o := _) rfl (fun K2 hK => ?_) AllReadyL.nil)
        ·
         go_simp
         have HT13 : Hid (TreeP (u4.alloc (.cells #[.string ⟨(opO i).toArray⟩, .string ⟨#[]⟩, .int .i64 0, .slice (some ⟨g10, 0, none⟩) 2 2, .string nz.op, .string nz.tx, .int .i64 nz.pl, .slice nz.kp nz.kn nz.kc] 25)) (fun k => b0 ≤ k) (nd (opO j) [nd (opO i) [vr 120, vr 121], vr 122]) ⟨bs (opO j), ⟨#[]⟩, 0, some ⟨u4.heap.size, 0, none⟩, 2, 2⟩) := kH (TreeP.two HT10.out (HTZ.out _ _) HP.out.s (opO j))
         clear HT10
         replace HP := kH (HP.out.new (.cells #[.string ⟨(opO i).toArray⟩, .string ⟨#[]⟩, .int .i64 0, .slice (some ⟨g10, 0, none⟩) 2 2, .string nz.op, .string nz.tx, .int .i64 nz.pl, .slice nz.kp nz.kn nz.kc] 25))
         refine hK.out _ _ (HP.out.l) (fun hHeld => ?_)
         clear hK K2
         try simp only [nrm]
         generalize u4.alloc (.cells #[.string ⟨(opO i).toArray⟩, .string ⟨#[]⟩, .int .i64 0, .slice (some ⟨g10, 0, none⟩) 2 2, .string nz.op, .string nz.tx, .int .i64 nz.pl, .slice nz.kp nz.kn nz.kc] 25) = u5 at *
         generalize u4.heap.size = g13 at *
         refine tkL 14 (hQ := fun c _ _ h => absurd h (HNP.out c _ _)) (v := ?_) rfl ?_ ?_
         rotate_left
         · (intro w hSw; go_simp; try with_reducible rfl)
         try simp only [nrm]
         refine rdL 15 rfl (fun K2 hK => ?_)
         go_simp
         replace HT13 := kH (HT13.out.new15 (HP.out.s) zN)
         replace HP := kH (HP.out.got)
         refine hK.out _ _ (HP.out.l) (fun hHeld => ?_)
         clear hK K2
         try simp only [nrm]
         generalize u5.alloc zN = u6 at *
         generalize u5.heap.size = gw at *
         refine wpAnyL_ready (rs := [16]) (by kernel_rfl) (by simp) ?_
         refine AllReadyL.store (o := _) rfl (by decide) (by decide) (fun K2 hK => ?_) AllReadyL.nil
         obtain ⟨z0, z1, z2, z3, zk0, zk1, zk2, zk3⟩ := HP.out.n.cells
         go_simp
         refine hK.out _ _ ?_
         clear hK K2
         try simp only
         refine wpAnyL_done (by kernel_rfl) ?_ _
         exact HQ.out _ _ _ _ _ _ _ _ _ _ _ _ _ _ _ _ (putA u6 gw ⟨bs (opO j), ⟨#[]⟩, 0, some ⟨g13, 0, none⟩, 2, 2⟩) (HP.out.fin _ HT13.out)
        ·
         go_simp
         replace HT10 := kH (HT10.out.new15 (HP.out.s) zN)
         replace HP := kH (HP.out.got)
         refine hK.out _ _ (HP.out.l) (fun hHeld => ?_)
         clear hK K2
         try simp only [nrm]
         generalize u4.alloc zN = u5 at *
         generalize u4.heap.size = gw at *
         refine rdL 13 rfl (fun K2 hK => ?_)
         go_simp
         have HT13 : Hid (TreeP (u5.alloc (.cells #[.string ⟨(opO i).toArray⟩, .string ⟨#[]⟩, .int .i64 0, .slice (some ⟨g10, 0, none⟩) 2 2, .string nz.op, .string nz.tx, .int .i64 nz.pl, .slice nz.kp nz.kn nz.kc] 25)) (fun k => b0 ≤ k ∧ k ≠ gw) (nd (opO j) [nd (opO i) [vr 120, vr 121], vr 122]) ⟨bs (opO j), ⟨#[]⟩, 0, some ⟨u5.heap.size, 0, none⟩, 2, 2⟩) := kH (TreeP.two HT10.out (HTZ.out _ _) HP.out.hb (opO j))
         clear HT10
         replace HP := kH (HP.out.new (.cells #[.string ⟨(opO i).toArray⟩, .string ⟨#[]⟩, .int .i64 0, .slice (some ⟨g10, 0, none⟩) 2 2, .string nz.op, .string nz.tx, .int .i64 nz.pl, .slice nz.kp nz.kn nz.kc] 25))
         refine hK.out _ _ (HP.out.l) (fun hHeld => ?_)
         clear hK K2
         try simp only [nrm]
         generalize u5.alloc (.cells #[.string ⟨(opO i).toArray⟩, .string ⟨#[]⟩, .int .i64 0, .slice (some ⟨g10, 0, none⟩) 2 2, .string nz.op, .string nz.tx, .int .i64 nz.pl, .slice nz.kp nz.kn nz.kc] 25) = u6 at *
         generalize u5.heap.size = g13 at *
         refine tkL 14 (hQ := fun c _ _ h => absurd h (HNP.out c _ _)) (v := ?_) rfl ?_ ?_
         rotate_left
         · (intro w hSw; go_simp; try with_reducible rfl)
         try simp only [nrm]
         refine wpAnyL_ready (rs := [16]) (by kernel_rfl) (by simp) ?_
         refine AllReadyL.store (o := _) rfl (by decide) (by decide) (fun K2 hK => ?_) AllReadyL.nil
         obtain ⟨z0, z1, z2, z3, zk0, zk1, zk2, zk3⟩ := HP.out.n.cells
         go_simp
         refine hK.out _ _ ?_
         clear hK K2
         try simp only
         refine wpAnyL_done (by kernel_rfl) ?_ _
         exact HQ.out _ _ _ _ _ _ _ _ _ _ _ _ _ _ _ _ (putA u6 gw ⟨bs (opO j), ⟨#[]⟩, 0, some ⟨g13, 0, none⟩, 2, 2⟩) (HP.out.fin _ HT13.out)
       ·
        go_simp
        replace HT10 := kH (HT10.out.new15 (HP.out.s) zN)
        replace HP := kH (HP.out.got)
        refine hK.out _ _ (HP.out.l) (fun hHeld => ?_)
        clear hK K2
        try simp only [nrm]
        generalize u3.alloc zN = u4 at *
        generalize u3.heap.size = gw at *
        refine rdL 12 rfl (fun K2 hK => ?_)
        go_simp
        refine (HVZ.out _).mono ?_
        rintro e u5 ⟨rfl, hb⟩
        replace HP := kH (HP.out.step hb)
        replace HT10 := kH (HT10.out.below hb)
        clear hb
        unfold An.val
        refine hK.out _ _ (HP.out.l) (fun hHeld => ?_)
        clear hK K2
        try simp only [nrm]
        refine rdL 13 rfl (fun K2 hK => ?_)
        go_simp
        have HT13 : Hid (TreeP (u5.alloc (.cells #[.string ⟨(opO i).toArray⟩, .string ⟨#[]⟩, .int .i64 0, .slice (some ⟨g10, 0, none⟩) 2 2, .string nz.op, .string nz.tx, .int .i64 nz.pl, .slice nz.kp nz.kn nz.kc] 25)) (fun k => b0 ≤ k ∧ k ≠ gw) (nd (opO j) [nd (opO i) [vr 120, vr 121], vr 122]) ⟨bs (opO j), ⟨#[]⟩, 0, some ⟨u5.heap.size, 0, none⟩, 2, 2⟩) := kH (TreeP.two HT10.out (HTZ.out _ _) HP.out.hb (opO j))
        clear HT10
        replace HP := kH (HP.out.new (.cells #[.string ⟨(opO i).toArray⟩, .string ⟨#[]⟩, .int .i64 0, .slice (some ⟨g10, 0, none⟩) 2 2, .string nz.op, .string nz.tx, .int .i64 nz.pl, .slice nz.kp nz.kn nz.kc] 25))
        refine hK.out _ _ (HP.out.l) (fun hHeld => ?_)
        clear hK K2
        try simp only [nrm]
        generalize u5.alloc (.cells #[.string ⟨(opO i).toArray⟩, .string ⟨#[]⟩, .int .i64 0, .slice (some ⟨g10, 0, none⟩) 2 2, .string nz.op, .string nz.tx, .int .i64 nz.pl, .slice nz.kp nz.kn nz.kc] 25) = u6 at *
        generalize u5.heap.size = g13 at *
        refine tkL 14 (hQ := fun c _ _ h => absurd h (HNP.out c _ _)) (v := ?_) rfl ?_ ?_
        rotate_left
        · (intro w hSw; go_simp; try with_reducible rfl)
        try simp only [nrm]
        refine wpAnyL_ready (rs := [16]) (by kernel_rfl) (by simp) ?_
        refine AllReadyL.store (o := _) rfl (by decide) (by decide) (fun K2 hK => ?_) AllReadyL.nil
        obtain ⟨z0, z1, z2, z3, zk0, zk1, zk2, zk3⟩ := HP.out.n.cells
        go_simp
        refine hK.out _ _ ?_
        clear hK K2
        try simp only
        refine wpAnyL_done (by kernel_rfl) ?_ _
        exact HQ.out _ _ _ _ _ _ _ _ _ _ _ _ _ _ _ _ (putA u6 gw ⟨bs (opO j), ⟨#[]⟩, 0, some ⟨g13, 0, none⟩, 2, 2⟩) (HP.out.fin _ HT13.out)
      ·
       go_simp
       refine (HVZ.out _).mono ?_
       rintro e u3 ⟨rfl, hb⟩
       replace HP := kH (HP.out.step hb)
       clear hb
       unfold An.val
       refine hK.out _ _ (HP.out.l) (fun hHeld => ?_)
       clear hK K2
       try simp only [nrm]
       refine wpAnyL_ready (rs := [10, 15]) (by kernel_rfl) (by simp) ?_
       refine AllReadyL.cons (o := _) rfl (fun K2 hK => ?_) (AllReadyL.cons (o := _) rfl (fun K2 hK => ?_) AllReadyL.nil)
       ·
        go_simp
        have HT10 : Hid (TreeP (u3.alloc (nB2 nx ny)) (fun k => b0 ≤ k) (nd (opO i) [vr 120, vr 121]) ⟨bs (opO i), ⟨#[]⟩, 0, some ⟨u3.heap.size, 0, none⟩, 2, 2⟩) := kH (TreeP.two (HTX.out _ _) (HTY.out _ _) HP.out.s (opO i))
        replace HP := kH (HP.out.new (nB2 nx ny))
        refine hK.out _ _ (HP.out.l) (fun hHeld => ?_)
        clear hK K2
        try simp only [nrm]
        generalize u3.alloc (nB2 nx ny) = u4 at *
        generalize u3.heap.size = g10 at *
        refine tkL 11 (hQ := fun c _ _ h => absurd h (HNP.out c _ _)) (v := ?_) rfl ?_ ?_
        rotate_left
        · (intro w hSw; go_simp; try with_reducible rfl)
        try simp only [nrm]
        refine wpAnyL_ready (rs := [13, 15]) (by kernel_rfl) (by simp) ?_
        refine AllReadyL.cons (o := _) rfl (fun K2 hK => ?_) (AllReadyL.cons (o := _) rfl (fun K2 hK => ?_) AllReadyL.nil)
        ·
         go_simp
         have HT13 : Hid (TreeP (u4.alloc (.cells #[.string ⟨(opO i).toArray⟩, .string ⟨#[]⟩, .int .i64 0, .slice (some ⟨g10, 0, none⟩) 2 2, .string nz.op, .string nz.tx, .int .i64 nz.pl, .slice nz.kp nz.kn nz.kc] 25)) (fun k => b0 ≤ k) (nd (opO j) [nd (opO i) [vr 120, vr 121], vr 122]) ⟨bs (opO j), ⟨#[]⟩, 0, some ⟨u4.heap.size, 0, none⟩, 2, 2⟩) := kH (TreeP.two HT10.out (HTZ.out _ _) HP.out.s (opO j))
         clear HT10
         replace HP := kH (HP.out.new (.cells #[.string ⟨(opO i).toArray⟩, .string ⟨#[]⟩, .int .i64 0, .slice (some ⟨g10, 0, none⟩) 2 2, .string nz.op, .string nz.tx, .int .i64 nz.pl, .slice nz.kp nz.kn nz.kc] 25))
         refine hK.out _ _ (HP.out.l) (fun hHeld => ?_)
         clear hK K2
         try simp only [nrm]
         generalize u4.alloc (.cells #[.string ⟨(opO i).toArray⟩, .string ⟨#[]⟩, .int .i64 0, .slice (some ⟨g10, 0, none⟩) 2 2, .string nz.op, .string nz.tx, .int .i64 nz.pl, .slice nz.kp nz.kn nz.kc] 25) = u5 at *
         generalize u4.heap.size = g13 at *
         refine tkL 14 (hQ := fun c _ _ h => absurd h (HNP.out c _ _)) (v := ?_) rfl ?_ ?_
         rotate_left
         · (intro w hSw; go_simp; try with_reducible rfl)
         try simp only [nrm]
         refine rdL 15 rfl (fun K2 hK => ?_)
         go_simp
         replace HT13 := kH (HT13.out.new15 (HP.out.s) zN)
         replace HP := kH (HP.out.got)
         refine hK.out _ _ (HP.out.l) (fun hHeld => ?_)
         clear hK K2
         try simp only [nrm]
         generalize u5.alloc zN = u6 at *
         generalize u5.heap.size = gw at *
         refine wpAnyL_ready (rs := [16]) (by kernel_rfl) (by simp) ?_
         refine AllReadyL.store (o := _) rfl (by decide) (by decide) (fun K2 hK => ?_) AllReadyL.nil
         obtain ⟨z0, z1, z2, z3, zk0, zk1, zk2, zk3⟩ := HP.out.n.cells
         go_simp
         refine hK.out _ _ ?_
         clear hK K2
         try simp only
         refine wpAnyL_done (by kernel_rfl) ?_ _
         exact HQ.out _ _ _ _ _ _ _ _ _ _ _ _ _ _ _ _ (putA u6 gw ⟨bs (opO j), ⟨#[]⟩, 0, some ⟨g13, 0, none⟩, 2, 2⟩) (HP.out.fin _ HT13.out)
        ·
         go_simp
         replace HT10 := kH (HT10.out.new15 (HP.out.s) zN)
         replace HP := kH (HP.out.got)
         refine hK.out _ _ (HP.out.l) (fun hHeld => ?_)
         clear hK K2
         try simp only [nrm]
         generalize u4.alloc zN = u5 at *
         generalize u4.heap.size = gw at *
         refine rdL 13 rfl (fun K2 hK => ?_)
         go_simp
         have HT13 : Hid (TreeP (u5.alloc (.cells #[.string ⟨(opO i).toArray⟩, .string ⟨#[]⟩, .int .i64 0, .slice (some ⟨g10, 0, none⟩) 2 2, .string nz.op, .string nz.tx, .int .i64 nz.pl, .slice nz.kp nz.kn nz.kc] 25)) (fun k => b0 ≤ k ∧ k ≠ gw) (nd (opO j) [nd (opO i) [vr 120, vr 121], vr 122]) ⟨bs (opO j), ⟨#[]⟩, 0, some ⟨u5.heap.size, 0, none⟩, 2, 2⟩) := kH (TreeP.two HT10.out (HTZ.out _ _) HP.out.hb (opO j))
         clear HT10
         replace HP := kH (HP.out.new (.cells #[.string ⟨(opO i).toArray⟩, .string ⟨#[]⟩, .int .i64 0, .slice (some ⟨g10, 0, none⟩) 2 2, .string nz.op, .string nz.tx, .int .i64 nz.pl, .slice nz.kp nz.kn nz.kc] 25))
         refine hK.out _ _ (HP.out.l) (fun hHeld => ?_)
         clear hK K2
         try simp only [nrm]
         generalize u5.alloc (.cells #[.string ⟨(opO i).toArray⟩, .string ⟨#[]⟩, .int .i64 0, .slice (some ⟨g10, 0, none⟩) 2 2, .string nz.op, .string nz.tx, .int .i64 nz.pl, .slice nz.kp nz.kn nz.kc] 25) = u6 at *
         generalize u5.heap.size = g13 at *
         refine tkL 14 (hQ := fun c _ _ h => absurd h (HNP.out c _ _)) (v := ?_) rfl ?_ ?_
         rotate_left
         · (intro w hSw; go_simp; try with_reducible rfl)
         try simp only [nrm]
         refine wpAnyL_ready (rs := [16]) (by kernel_rfl) (by simp) ?_
         refine AllReadyL.store (o := _) rfl (by decide) (by decide) (fun K2 hK => ?_) AllReadyL.nil
         obtain ⟨z0, z1, z2, z3, zk0, zk1, zk2, zk3⟩ := HP.out.n.cells
         go_simp
         refine hK.out _ _ ?_
         clear hK K2
         try simp only
         refine wpAnyL_done (by kernel_rfl) ?_ _
         exact HQ.out _ _ _ _ _ _ _ _ _ _ _ _ _ _ _ _ (putA u6 gw ⟨bs (opO j), ⟨#[]⟩, 0, some ⟨g13, 0, none⟩, 2, 2⟩) (HP.out.fin _ HT13.out)
       ·
        go_simp
        replace HP := kH (HP.out.got)
        refine hK.out _ _ (HP.out.l) (fun hHeld => ?_)
        clear hK K2
        try simp only [nrm]
        generalize u3.alloc zN = u4 at *
        generalize u3.heap.size = gw at *
        refine rdL 10 rfl (fun K2 hK => ?_)
        go_simp
        have HT10 : Hid (TreeP (u4.alloc (nB2 nx ny)) (fun k => b0 ≤ k ∧ k ≠ gw) (nd (opO i) [vr 120, vr 121]) ⟨bs (opO i), ⟨#[]⟩, 0, some ⟨u4.heap.size, 0, none⟩, 2, 2⟩) := kH (TreeP.two (HTX.out _ _) (HTY.out _ _) HP.out.hb (opO i))
        replace HP := kH (HP.out.new (nB2 nx ny))
        refine hK.out _ _ (HP.out.l) (fun hHeld => ?_)
        clear hK K2
        try simp only [nrm]
        generalize u4.alloc (nB2 nx ny) = u5 at *
        generalize u4.heap.size = g10 at *
        refine tkL 11 (hQ := fun c _ _ h => absurd h (HNP.out c _ _)) (v := ?_) rfl ?_ ?_
        rotate_left
        · (intro w hSw; go_simp; try with_reducible rfl)
        try simp only [nrm]
        refine rdL 13 rfl (fun K2 hK => ?_)
        go_simp
        have HT13 : Hid (TreeP (u5.alloc (.cells #[.string ⟨(opO i).toArray⟩, .string ⟨#[]⟩, .int .i64 0, .slice (some ⟨g10, 0, none⟩) 2 2, .string nz.op, .string nz.tx, .int .i64 nz.pl, .slice nz.kp nz.kn nz.kc] 25)) (fun k => b0 ≤ k ∧ k ≠ gw) (nd (opO j) [nd (opO i) [vr 120, vr 121], vr 122]) ⟨bs (opO j), ⟨#[]⟩, 0, some ⟨u5.heap.size, 0, none⟩, 2, 2⟩) := kH (TreeP.two HT10.out (HTZ.out _ _) HP.out.hb (opO j))
        clear HT10
        replace HP := kH (HP.out.new (.cells #[.string ⟨(opO i).toArray⟩, .string ⟨#[]⟩, .int .i64 0, .slice (some ⟨g10, 0, none⟩) 2 2, .string nz.op, .string nz.tx, .int .i64 nz.pl, .slice nz.kp nz.kn nz.kc] 25))
        refine hK.out _ _ (HP.out.l) (fun hHeld => ?_)
        clear hK K2
        try simp only [nrm]
        generalize u5.alloc (.cells #[.string ⟨(opO i).toArray⟩, .string ⟨#[]⟩, .int .i64 0, .slice (some ⟨g10, 0, none⟩) 2 2, .string nz.op, .string nz.tx, .int .i64 nz.pl, .slice nz.kp nz.kn nz.kc] 25) = u6 at *
        generalize u5.heap.size = g13 at *
        refine tkL 14 (hQ := fun c _ _ h => absurd h (HNP.out c _ _)) (v := ?_) rfl ?_ ?_
        rotate_left
        · (intro w hSw; go_simp; try with_reducible rfl)
        try simp only [nrm]
        refine wpAnyL_ready (rs := [16]) (by kernel_rfl) (by simp) ?_
        refine AllReadyL.store (o := _) rfl (by decide) (by decide) (fun K2 hK => ?_) AllReadyL.nil
        obtain ⟨z0, z1, z2, z3, zk0, zk1, zk2, zk3⟩ := HP.out.n.cells
        go_simp
        refine hK.out _ _ ?_
        clear hK K2
        try simp only
        refine wpAnyL_done (by kernel_rfl) ?_ _
        exact HQ.out _ _ _ _ _ _ _ _ _ _ _ _ _ _ _ _ (putA u6 gw ⟨bs (opO j), ⟨#[]⟩, 0, some ⟨g13, 0, none⟩, 2, 2⟩) (HP.out.fin _ HT13.out)
      ·
       go_simp
       replace HP := kH (HP.out.got)
       refine hK.out _ _ (HP.out.l) (fun hHeld => ?_)
       clear hK K2
       try simp only [nrm]
       generalize u2.alloc zN = u3 at *
       generalize u2.heap.size = gw at *
       refine wpAnyL_ready (rs := [10, 12]) (by kernel_rfl) (by simp) ?_
       refine AllReadyL.cons (o := _) rfl (fun K2 hK => ?_) (AllReadyL.cons (o := _) rfl (fun K2 hK => ?_) AllReadyL.nil)
       ·
        go_simp
        have HT10 : Hid (TreeP (u3.alloc (nB2 nx ny)) (fun k => b0 ≤ k ∧ k ≠ gw) (nd (opO i) [vr 120, vr 121]) ⟨bs (opO i), ⟨#[]⟩, 0, some ⟨u3.heap.size, 0, none⟩, 2, 2⟩) := kH (TreeP.two (HTX.out _ _) (HTY.out _ _) HP.out.hb (opO i))
        replace HP := kH (HP.out.new (nB2 nx ny))
        refine hK.out _ _ (HP.out.l) (fun hHeld => ?_)
        clear hK K2
        try simp only [nrm]
        generalize u3.alloc (nB2 nx ny) = u4 at *
        generalize u3.heap.size = g10 at *
        refine tkL 11 (hQ := fun c _ _ h => absurd h (HNP.out c _ _)) (v := ?_) rfl ?_ ?_
        rotate_left
        · (intro w hSw; go_simp; try with_reducible rfl)
        try simp only [nrm]
        refine rdL 12 rfl (fun K2 hK => ?_)
        go_simp
        refine (HVZ.out _).mono ?_
        rintro e u5 ⟨rfl, hb⟩
        replace HP := kH (HP.out.step hb)
        replace HT10 := kH (HT10.out.below hb)
        clear hb
        unfold An.val
        refine hK.out _ _ (HP.out.l) (fun hHeld => ?_)
        clear hK K2
        try simp only [nrm]
        refine rdL 13 rfl (fun K2 hK => ?_)
        go_simp
        have HT13 : Hid (TreeP (u5.alloc (.cells #[.string ⟨(opO i).toArray⟩, .string ⟨#[]⟩, .int .i64 0, .slice (some ⟨g10, 0, none⟩) 2 2, .string nz.op, .string nz.tx, .int .i64 nz.pl, .slice nz.kp nz.kn nz.kc] 25)) (fun k => b0 ≤ k ∧ k ≠ gw) (nd (opO j) [nd (opO i) [vr 120, vr 121], vr 122]) ⟨bs (opO j), ⟨#[]⟩, 0, some ⟨u5.heap.size, 0, none⟩, 2, 2⟩) := kH (TreeP.two HT10.out (HTZ.out _ _) HP.out.hb (opO j))
        clear HT10
        replace HP := kH (HP.out.new (.cells #[.string ⟨(opO i).toArray⟩, .string ⟨#[]⟩, .int .i64 0, .slice (some ⟨g10, 0, none⟩) 2 2, .string nz.op, .string nz.tx, .int .i64 nz.pl, .slice nz.kp nz.kn nz.kc] 25))
        refine hK.out _ _ (HP.out.l) (fun hHeld => ?_)
        clear hK K2
        try simp only [nrm]
        generalize u5.alloc (.cells #[.string ⟨(opO i).toArray⟩, .string ⟨#[]⟩, .int .i64 0, .slice (some ⟨g10, 0, none⟩) 2 2, .string nz.op, .string nz.tx, .int .i64 nz.pl, .slice nz.kp nz.kn nz.kc] 25) = u6 at *
        generalize u5.heap.size = g13 at *
        refine tkL 14 (hQ := fun c _ _ h => absurd h (HNP.out c _ _)) (v := ?_) rfl ?_ ?_
        rotate_left
        · (intro w hSw; go_simp; try with_reducible rfl)
        try simp only [nrm]
        refine wpAnyL_ready (rs := [16]) (by kernel_rfl) (by simp) ?_
        refine AllReadyL.store (o := _) rfl (by decide) (by decide) (fun K2 hK => ?_) AllReadyL.nil
        obtain ⟨z0, z1, z2, z3, zk0, zk1, zk2, zk3⟩ := HP.out.n.cells
        go_simp
        refine hK.out _ _ ?_
        clear hK K2
        try simp only
        refine wpAnyL_done (by kernel_rfl) ?_ _
        exact HQ.out _ _ _ _ _ _ _ _ _ _ _ _ _ _ _ _ (putA u6 gw ⟨bs (opO j), ⟨#[]⟩, 0, some ⟨g13, 0, none⟩, 2, 2⟩) (HP.out.fin _ HT13.out)
       ·
        go_simp
        refine (HVZ.out _).mono ?_
        rintro e u4 ⟨rfl, hb⟩
        replace HP := kH (HP.out.step hb)
        clear hb
        unfold An.val
        refine hK.out _ _ (HP.out.l) (fun hHeld => ?_)
        clear hK K2
        try simp only [nrm]
        refine rdL 10 rfl (fun K2 hK => ?_)
        go_simp
        have HT10 : Hid (TreeP (u4.alloc (nB2 nx ny)) (fun k => b0 ≤ k ∧ k ≠ gw) (nd (opO i) [vr 120, vr 121]) ⟨bs (opO i), ⟨#[]⟩, 0, some ⟨u4.heap.size, 0, none⟩, 2, 2⟩) := kH (TreeP.two (HTX.out _ _) (HTY.out _ _) HP.out.hb (opO i))
        replace HP := kH (HP.out.new (nB2 nx ny))
        refine hK.out _ _ (HP.out.l) (fun hHeld => ?_)
        clear hK K2
        try simp only [nrm]
        generalize u4.alloc (nB2 nx ny) = u5 at *
        generalize u4.heap.size = g10 at *
        refine tkL 11 (hQ := fun c _ _ h => absurd h (HNP.out c _ _)) (v := ?_) rfl ?_ ?_
        rotate_left
        · (intro w hSw; go_simp; try with_reducible rfl)
        try simp only [nrm]
        refine rdL 13 rfl (fun K2 hK => ?_)
        go_simp
        have HT13 : Hid (TreeP (u5.alloc (.cells #[.string ⟨(opO i).toArray⟩, .string ⟨#[]⟩, .int .i64 0, .slice (some ⟨g10, 0, none⟩) 2 2, .string nz.op, .string nz.tx, .int .i64 nz.pl, .slice nz.kp nz.kn nz.kc] 25)) (fun k => b0 ≤ k ∧ k ≠ gw) (nd (opO j) [nd (opO i) [vr 120, vr 121], vr 122]) ⟨bs (opO j), ⟨#[]⟩, 0, some ⟨u5.heap.size, 0, none⟩, 2, 2⟩) := kH (TreeP.two HT10.out (HTZ.out _ _) HP.out.hb (opO j))
        clear HT10
        replace HP := kH (HP.out.new (.cells #[.string ⟨(opO i).toArray⟩, .string ⟨#[]⟩, .int .i64 0, .slice (some ⟨g10, 0, none⟩) 2 2, .string nz.op, .string nz.tx, .int .i64 nz.pl, .slice nz.kp nz.kn nz.kc] 25))
        refine hK.out _ _ (HP.out.l) (fun hHeld => ?_)
        clear hK K2
        try simp only [nrm]
        generalize u5.alloc (.cells #[.string ⟨(opO i).toArray⟩, .string ⟨#[]⟩, .int .i64 0, .slice (some ⟨g10, 0, none⟩) 2 2, .string nz.op, .string nz.tx, .int .i64 nz.pl, .slice nz.kp nz.kn nz.kc] 25) = u6 at *
        generalize u5.heap.size = g13 at *
        refine tkL 14 (hQ := fun c _ _ h => absurd h (HNP.out c _ _)) (v := ?_) rfl ?_ ?_
        rotate_left
        · (intro w hSw; go_simp; try with_reducible rfl)
        try simp only [nrm]
        refine wpAnyL_ready (rs := [16]) (by kernel_rfl) (by simp) ?_
        refine AllReadyL.store (o := _) rfl (by decide) (by decide) (fun K2 hK => ?_) AllReadyL.nil
        obtain ⟨z0, z1, z2, z3, zk0, zk1, zk2, zk3⟩ := HP.out.n.cells
        go_simp
        refine hK.out _ _ ?_
        clear hK K2
        try simp only
        refine wpAnyL_done (by kernel_rfl) ?_ _
        exact HQ.out _ _ _ _ _ _ _ _ _ _ _ _ _ _ _ _ (putA u6 gw ⟨bs (opO j), ⟨#[]⟩, 0, some ⟨g13, 0, none⟩, 2, 2⟩) (HP.out.fin _ HT13.out)
     ·
      go_simp
      replace HP := kH (HP.out.got)
      refine hK.out _ _ (HP.out.l) (fun hHeld => ?_)
      clear hK K2
      try simp only [nrm]
      generalize u1.alloc zN = u2 at *
      generalize u1.heap.size = gw at *
      refine rdL 9 rfl (fun K2 hK => ?_)
      go_simp
      refine (HVY.out _).mono ?_
      rintro e u3 ⟨rfl, hb⟩
      replace HP := kH (HP.out.step hb)
      clear hb
      unfold An.val
      refine hK.out _ _ (HP.out.l) (fun hHeld => ?_)
      clear hK K2
      try simp only [nrm]
      refine wpAnyL_ready (rs := [10, 12]) (by kernel_rfl) (by simp) ?_
      refine AllReadyL.cons (o := _) rfl (fun K2 hK => ?_) (AllReadyL.cons (o := _) rfl (fun K2 hK => ?_) AllReadyL.nil)
      ·
       go_simp
       have HT10 : Hid (TreeP (u3.alloc (nB2 nx ny)) (fun k => b0 ≤ k ∧ k ≠ gw) (nd (opO i) [vr 120, vr 121]) ⟨bs (opO i), ⟨#[]⟩, 0, some ⟨u3.heap.size, 0, none⟩, 2, 2⟩) := kH (TreeP.two (HTX.out _ _) (HTY.out _ _) HP.out.hb (opO i))
       replace HP := kH (HP.out.new (nB2 nx ny))
       refine hK.out _ _ (HP.out.l) (fun hHeld => ?_)
       clear hK K2
       try simp only [nrm]
       generalize u3.alloc (nB2 nx ny) = u4 at *
       generalize u3.heap.size = g10 at *
       refine tkL 11 (hQ := fun c _ _ h => absurd h (HNP.out c _ _)) (v := ?_) rfl ?_ ?_
       rotate_left
       · (intro w hSw; go_simp; try with_reducible rfl)
       try simp only [nrm]
       refine rdL 12 rfl (fun K2 hK => ?_)
       go_simp
       refine (HVZ.out _).mono ?_
       rintro e u5 ⟨rfl, hb⟩
       replace HP := kH (HP.out.step hb)
       replace HT10 := kH (HT10.out.below hb)
       clear hb
       unfold An.val
       refine hK.out _ _ (HP.out.l) (fun hHeld => ?_)
       clear hK K2
       try simp only [nrm]
       refine rdL 13 rfl (fun K2 hK => ?_)
       go_simp
       have HT13 : Hid (TreeP (u5.alloc (.cells #[.string ⟨(opO i).toArray⟩, .string ⟨#[]⟩, .int .i64 0, .slice (some ⟨g10, 0, none⟩) 2 2, .string nz.op, .string nz.tx, .int .i64 nz.pl, .slice nz.kp nz.kn nz.kc] 25)) (fun k => b0 ≤ k ∧ k ≠ gw) (nd (opO j) [nd (opO i) [vr 120, vr 121], vr 122]) ⟨bs (opO j), ⟨#[]⟩, 0, some ⟨u5.heap.size, 0, none⟩, 2, 2⟩) := kH (TreeP.two HT10.out (HTZ.out _ _) HP.out.hb (opO j))
       clear HT10
       replace HP := kH (HP.out.new (.cells #[.string ⟨(opO i).toArray⟩, .string ⟨#[]⟩, .int .i64 0, .slice (some ⟨g10, 0, none⟩) 2 2, .string nz.op, .string nz.tx, .int .i64 nz.pl, .slice nz.kp nz.kn nz.kc] 25))
       refine hK.out _ _ (HP.out.l) (fun hHeld => ?_)
       clear hK K2
       try simp only [nrm]
       generalize u5.alloc (.cells #[.string ⟨(opO i).toArray⟩, .string ⟨#[]⟩, .int .i64 0, .slice (some ⟨g10, 0, none⟩) 2 2, .string nz.op, .string nz.tx, .int .i64 nz.pl, .slice nz.kp nz.kn nz.kc] 25) = u6 at *
       generalize u5.heap.size = g13 at *
       refine tkL 14 (hQ := fun c _ _ h => absurd h (HNP.out c _ _)) (v := ?_) rfl ?_ ?_
       rotate_left
       · (intro w hSw; go_simp; try with_reducible rfl)
       try simp only [nrm]
       refine wpAnyL_ready (rs := [16]) (by kernel_rfl) (by simp) ?_
       refine AllReadyL.store (o := _) rfl (by decide) (by decide) (fun K2 hK => ?_) AllReadyL.nil
       obtain ⟨z0, z1, z2, z3, zk0, zk1, zk2, zk3⟩ := HP.out.n.cells
       go_simp
       refine hK.out _ _ ?_
       clear hK K2
       try simp only
       refine wpAnyL_done (by kernel_rfl) ?_ _
       exact HQ.out _ _ _ _ _ _ _ _ _ _ _ _ _ _ _ _ (putA u6 gw ⟨bs (opO j), ⟨#[]⟩, 0, some ⟨g13, 0, none⟩, 2, 2⟩) (HP.out.fin _ HT13.out)
      ·
       go_simp
       refine (HVZ.out _).mono ?_
       rintro e u4 ⟨rfl, hb⟩
       replace HP := kH (HP.out.step hb)
       clear hb
       unfold An.val
       refine hK.out _ _ (HP.out.l) (fun hHeld => ?_)
       clear hK K2
       try simp only [nrm]
       refine rdL 10 rfl (fun K2 hK => ?_)
       go_simp
       have HT10 : Hid (TreeP (u4.alloc (nB2 nx ny)) (fun k => b0 ≤ k ∧ k ≠ gw) (nd (opO i) [vr 120, vr 121]) ⟨bs (opO i), ⟨#[]⟩, 0, some ⟨u4.heap.size, 0, none⟩, 2, 2⟩) := kH (TreeP.two (HTX.out _ _) (HTY.out _ _) HP.out.hb (opO i))
       replace HP := kH (HP.out.new (nB2 nx ny))
       refine hK.out _ _ (HP.out.l) (fun hHeld => ?_)
       clear hK K2
       try simp only [nrm]
       generalize u4.alloc (nB2 nx ny) = u5 at *
       generalize u4.heap.size = g10 at *
       refine tkL 11 (hQ := fun c _ _ h => absurd h (HNP.out c _ _)) (v := ?_) rfl ?_ ?_
       rotate_left
       · (intro w hSw; go_simp; try with_reducible rfl)
       try simp only [nrm]
       refine rdL 13 rfl (fun K2 hK => ?_)
       go_simp
       have HT13 : Hid (TreeP (u5.alloc (.cells #[.string ⟨(opO i).toArray⟩, .string ⟨#[]⟩, .int .i64 0, .slice (some ⟨g10, 0, none⟩) 2 2, .string nz.op, .string nz.tx, .int .i64 nz.pl, .slice nz.kp nz.kn nz.kc] 25)) (fun k => b0 ≤ k ∧ k ≠ gw) (nd (opO j) [nd (opO i) [vr 120, vr 121], vr 122]) ⟨bs (opO j), ⟨#[]⟩, 0, some ⟨u5.heap.size, 0, none⟩, 2, 2⟩) := kH (TreeP.two HT10.out (HTZ.out _ _) HP.out.hb (opO j))
       clear HT10
       replace HP := kH (HP.out.new (.cells #[.string ⟨(opO i).toArray⟩, .string ⟨#[]⟩, .int .i64 0, .slice (some ⟨g10, 0, none⟩) 2 2, .string nz.op, .string nz.tx, .int .i64 nz.pl, .slice nz.kp nz.kn nz.kc] 25))
       refine hK.out _ _ (HP.out.l) (fun hHeld => ?_)
       clear hK K2
       try simp only [nrm]
       generalize u5.alloc (.cells #[.string ⟨(opO i).toArray⟩, .string ⟨#[]⟩, .int .i64 0, .slice (some ⟨g10, 0, none⟩) 2 2, .string nz.op, .string nz.tx, .int .i64 nz.pl, .slice nz.kp nz.kn nz.kc] 25) = u6 at *
       generalize u5.heap.size = g13 at *
       refine tkL 14 (hQ := fun c _ _ h => absurd h (HNP.out c _ _)) (v := ?_) rfl ?_ ?_
       rotate_left
       · (intro w hSw; go_simp; try with_reducible rfl)
       try simp only [nrm]
       refine wpAnyL_ready (rs := [16]) (by kernel_rfl) (by simp) ?_
       refine AllReadyL.store (o := _) rfl (by decide) (by decide) (fun K2 hK => ?_) AllReadyL.nil
       obtain ⟨z0, z1, z2, z3, zk0, zk1, zk2, zk3⟩ := HP.out.n.cells
       go_simp
       refine hK.out _ _ ?_
       clear hK K2
       try simp only
       refine wpAnyL_done (by kernel_rfl) ?_ _
       exact HQ.out _ _ _ _ _ _ _ _ _ _ _ _ _ _ _ _ (putA u6 gw ⟨bs (opO j), ⟨#[]⟩, 0, some ⟨g13, 0, none⟩, 2, 2⟩) (HP.out.fin _ HT13.out)
    ·
     go_simp
     replace HP := kH (HP.out.got)
     refine hK.out _ _ (HP.out.l) (fun hHeld => ?_)
     clear hK K2
     try simp only [nrm]
     generalize u0.alloc zN = u1 at *
     generalize u0.heap.size = gw at *
     refine rdL 8 rfl (fun K2 hK => ?_)
     go_simp
     refine (HVX.out _).mono ?_
     rintro e u2 ⟨rfl, hb⟩
     replace HP := kH (HP.out.step hb)
     clear hb
     unfold An.val
     refine hK.out _ _ (HP.out.l) (fun hHeld => ?_)
     clear hK K2
     try simp only [nrm]
     refine rdL 9 rfl (fun K2 hK => ?_)
     go_simp
     refine (HVY.out _).mono ?_
     rintro e u3 ⟨rfl, hb⟩
     replace HP := kH (HP.out.step hb)
     clear hb
     unfold An.val
     refine hK.out _ _ (HP.out.l) (fun hHeld => ?_)
     clear hK K2
     try simp only [nrm]
     refine wpAnyL_ready (rs := [10, 12]) (by kernel_rfl) (by simp) ?_
     refine AllReadyL.cons (o := _) rfl (fun K2 hK => ?_) (AllReadyL.cons (o := _) rfl (fun K2 hK => ?_) AllReadyL.nil)
     ·
      go_simp
      have HT10 : Hid (TreeP (u3.alloc (nB2 nx ny)) (fun k => b0 ≤ k ∧ k ≠ gw) (nd (opO i) [vr 120, vr 121]) ⟨bs (opO i), ⟨#[]⟩, 0, some ⟨u3.heap.size, 0, none⟩, 2, 2⟩) := kH (TreeP.two (HTX.out _ _) (HTY.out _ _) HP.out.hb (opO i))
      replace HP := kH (HP.out.new (nB2 nx ny))
      refine hK.out _ _ (HP.out.l) (fun hHeld => ?_)
      clear hK K2
      try simp only [nrm]
      generalize u3.alloc (nB2 nx ny) = u4 at *
      generalize u3.heap.size = g10 at *
      refine tkL 11 (hQ := fun c _ _ h => absurd h (HNP.out c _ _)) (v := ?_) rfl ?_ ?_
      rotate_left
      · (intro w hSw; go_simp; try with_reducible rfl)
      try simp only [nrm]
      refine rdL 12 rfl (fun K2 hK => ?_)
      go_simp
      refine (HVZ.out _).mono ?_
      rintro e u5 ⟨rfl, hb⟩
      replace HP := kH (HP.out.step hb)
      replace HT10 := kH (HT10.out.below hb)
      clear hb
      unfold An.val
      refine hK.out _ _ (HP.out.l) (fun hHeld => ?_)
      clear hK K2
      try simp only [nrm]
      refine rdL 13 rfl (fun K2 hK => ?_)
      go_simp
      have HT13 : Hid (TreeP (u5.alloc (.cells #[.string ⟨(opO i).toArray⟩, .string ⟨#[]⟩, .int .i64 0, .slice (some ⟨g10, 0, none⟩) 2 2, .string nz.op, .string nz.tx, .int .i64 nz.pl, .slice nz.kp nz.kn nz.kc] 25)) (fun k => b0 ≤ k ∧ k ≠ gw) (nd (opO j) [nd (opO i) [vr 120, vr 121], vr 122]) ⟨bs (opO j), ⟨#[]⟩, 0, some ⟨u5.heap.size, 0, none⟩, 2, 2⟩) := kH (TreeP.two HT10.out (HTZ.out _ _) HP.out.hb (opO j))
      clear HT10
      replace HP := kH (HP.out.new (.cells #[.string ⟨(opO i).toArray⟩, .string ⟨#[]⟩, .int .i64 0, .slice (some ⟨g10, 0, none⟩) 2 2, .string nz.op, .string nz.tx, .int .i64 nz.pl, .slice nz.kp nz.kn nz.kc] 25))
      refine hK.out _ _ (HP.out.l) (fun hHeld => ?_)
      clear hK K2
      try simp only [nrm]
      generalize u5.alloc (.cells #[.string ⟨(opO i).toArray⟩, .string ⟨#[]⟩, .int .i64 0, .slice (some ⟨g10, 0, none⟩) 2 2, .string nz.op, .string nz.tx, .int .i64 nz.pl, .slice nz.kp nz.kn nz.kc] 25) = u6 at *
      generalize u5.heap.size = g13 at *
      refine tkL 14 (hQ := fun c _ _ h => absurd h (HNP.out c _ _)) (v := ?_) rfl ?_ ?_
      rotate_left
      · (intro w hSw; go_simp; try with_reducible rfl)
      try simp only [nrm]
      refine wpAnyL_ready (rs := [16]) (by kernel_rfl) (by simp) ?_
      refine AllReadyL.store (o := _) rfl (by decide) (by decide) (fun K2 hK => ?_) AllReadyL.nil
      obtain ⟨z0, z1, z2, z3, zk0, zk1, zk2, zk3⟩ := HP.out.n.cells
      go_simp
      refine hK.out _ _ ?_
      clear hK K2
      try simp only
      refine wpAnyL_done (by kernel_rfl) ?_ _
      exact HQ.out _ _ _ _ _ _ _ _ _ _ _ _ _ _ _ _ (putA u6 gw ⟨bs (opO j), ⟨#[]⟩, 0, some ⟨g13, 0, none⟩, 2, 2⟩) (HP.out.fin _ HT13.out)
     ·
      go_simp
      refine (HVZ.out _).mono ?_
      rintro e u4 ⟨rfl, hb⟩
      replace HP := kH (HP.out.step hb)
      clear hb
      unfold An.val
      refine hK.out _ _ (HP.out.l) (fun hHeld => ?_)
      clear hK K2
      try simp only [nrm]
      refine rdL 10 rfl (fun K2 hK => ?_)
      go_simp
      have HT10 : Hid (TreeP (u4.alloc (nB2 nx ny)) (fun k => b0 ≤ k ∧ k ≠ gw) (nd (opO i) [vr 120, vr 121]) ⟨bs (opO i), ⟨#[]⟩, 0, some ⟨u4.heap.size, 0, none⟩, 2, 2⟩) := kH (TreeP.two (HTX.out _ _) (HTY.out _ _) HP.out.hb (opO i))
      replace HP := kH (HP.out.new (nB2 nx ny))
      refine hK.out _ _ (HP.out.l) (fun hHeld => ?_)
      clear hK K2
      try simp only [nrm]
      generalize u4.alloc (nB2 nx ny) = u5 at *
      generalize u4.heap.size = g10 at *
      refine tkL 11 (hQ := fun c _ _ h => absurd h (HNP.out c _ _)) (v := ?_) rfl ?_ ?_
      rotate_left
      · (intro w hSw; go_simp; try with_reducible rfl)
      try simp only [nrm]
      refine rdL 13 rfl (fun K2 hK => ?_)
      go_simp
      have HT13 : Hid (TreeP (u5.alloc (.cells #[.string ⟨(opO i).toArray⟩, .string ⟨#[]⟩, .int .i64 0, .slice (some ⟨g10, 0, none⟩) 2 2, .string nz.op, .string nz.tx, .int .i64 nz.pl, .slice nz.kp nz.kn nz.kc] 25)) (fun k => b0 ≤ k ∧ k ≠ gw) (nd (opO j) [nd (opO i) [vr 120, vr 121], vr 122]) ⟨bs (opO j), ⟨#[]⟩, 0, some ⟨u5.heap.size, 0, none⟩, 2, 2⟩) := kH (TreeP.two HT10.out (HTZ.out _ _) HP.out.hb (opO j))
      clear HT10
      replace HP := kH (HP.out.new (.cells #[.string ⟨(opO i).toArray⟩, .string ⟨#[]⟩, .int .i64 0, .slice (some ⟨g10, 0, none⟩) 2 2, .string nz.op, .string nz.tx, .int .i64 nz.pl, .slice nz.kp nz.kn nz.kc] 25))
      refine hK.out _ _ (HP.out.l) (fun hHeld => ?_)
      clear hK K2
      try simp only [nrm]
      generalize u5.alloc (.cells #[.string ⟨(opO i).toArray⟩, .string ⟨#[]⟩, .int .i64 0, .slice (some ⟨g10, 0, none⟩) 2 2, .string nz.op, .string nz.tx, .int .i64 nz.pl, .slice nz.kp nz.kn nz.kc] 25) = u6 at *
      generalize u5.heap.size = g13 at *
      refine tkL 14 (hQ := fun c _ _ h => absurd h (HNP.out c _ _)) (v := ?_) rfl ?_ ?_
      rotate_left
      · (intro w hSw; go_simp; try with_reducible rfl)
      try simp only [nrm]
      refine wpAnyL_ready (rs := [16]) (by kernel_rfl) (by simp) ?_
      refine AllReadyL.store (o := _) rfl (by decide) (by decide) (fun K2 hK => ?_) AllReadyL.nil
      obtain ⟨z0, z1, z2, z3, zk0, zk1, zk2, zk3⟩ := HP.out.n.cells
      go_simp
      refine hK.out _ _ ?_
      clear hK K2
      try simp only
      refine wpAnyL_done (by kernel_rfl) ?_ _
      exact HQ.out _ _ _ _ _ _ _ _ _ _ _ _ _ _ _ _ (putA u6 gw ⟨bs (opO j), ⟨#[]⟩, 0, some ⟨g13, 0, none⟩, 2, 2⟩) (HP.out.fin _ HT13.out)
   ·
    intro v70 v71 v72 v73 v74 v75 v76 v77 v78 v79 v80 v81 v82 v83 v84 v11 w5 ⟨gw, nw, h11, hn5, ht5, hg5, hb5⟩
    try simp only [nrm]
    subst h11
    have HN5 := kH hn5
    have HT5 := kH ht5
    have HL5 := kH (HL4.out.kept hb5)
    have HB5 := kH (HB4.out.trans (hb5.mono HB4.out.size))
    have HM4 := kH (HN4.out.below hb5)
    have HG5 := kH hg5
    have HC5 := kH (And.intro (HC.out.1.kept (hb5.block _ HLT.out.1)) (And.intro (HC.out.2.1.kept (hb5.block _ HLT.out.2.1)) (And.intro (HC.out.2.2.1.kept (hb5.block _ HLT.out.2.2.1)) (HC.out.2.2.2.kept (hb5.block _ HLT.out.2.2.2)))))
    have HT6 := kH (HT4.out.kept' (B' := fun k => k < gw) (fun k _ hl => hb5.block k hl) (fun k _ hl => by omega))
    have HLT0 := HLT
    have HSZ5 := kH hb5.size
    clear hn5 ht5 hg5 hb5 HC HLT HT4
    have HLT5 := kH (And.intro (Nat.lt_of_lt_of_le HLT0.out.1 HSZ5.out) (And.intro (Nat.lt_of_lt_of_le HLT0.out.2.1 HSZ5.out) (And.intro (Nat.lt_of_lt_of_le HLT0.out.2.2.1 HSZ5.out) (Nat.lt_of_lt_of_le HLT0.out.2.2.2 HSZ5.out))))
    have hli5 := HL5.out.l i hi
    have hlj5 := HL5.out.l j hj
    go_wp2
    rcases Nat.lt_or_ge (lv i) (lv j) with hlv | hlv
    ·
     have hlvi : (lv i : Int) < (lv j : Int) := by omega
     go_region
     clear hli5 hlj5
     replace HB5 := kH HB5.out.drew
     replace HN5 := kH HN5.out.drew
     replace HT5 := kH HT5.out.drew
     replace HL5 := kH HL5.out.drew
     replace HM4 := kH HM4.out.drew
     replace HT6 := kH HT6.out.drew
     replace HC5 := kH (And.intro (CellA.kept (w' := w5.drew) HC5.out.1 rfl) (And.intro (CellA.kept (w' := w5.drew) HC5.out.2.1 rfl) (And.intro (CellA.kept (w' := w5.drew) HC5.out.2.2.1 rfl) (CellA.kept (w' := w5.drew) HC5.out.2.2.2 rfl))))
     replace HLT5 : Hid (g1 < w5.drew.heap.size ∧ g2 < w5.drew.heap.size ∧ g3 < w5.drew.heap.size ∧ g4 < w5.drew.heap.size) := kH HLT5.out
     have HGW5 : Hid (gw < w5.drew.heap.size) := kH HN5.out.lt
     generalize w5.drew = u0 at *
     go_wp2
     refine wp_region_L (st := [15]) (S := fun Z => Ls Z w.heap.size) (by kernel_rfl) (HL5.out.drew) (fun hHeld => ?_)
     obtain ⟨b0, hb0⟩ : ∃ b, u0.heap.size = b := ⟨_, rfl⟩
     have HBN : Hid (Below b0 u0 u0.drew) := kH (hb0 ▸ (Below.refl u0.heap.size u0).drew)
     have HBS : Hid (b0 ≤ u0.drew.heap.size) := kH (Nat.le_of_eq hb0.symm)
     have HLN := kH HL5.out.drew
     have HBU := kH hb0
     clear hb0
     generalize u0.drew = u1 at *
     refine tkL 0  (v := ?_) rfl ?_ ?_
     rotate_left
     · (intro w hSw; go_simp; try with_reducible rfl)
     try simp only [nrm]
     refine tkL 1  (v := ?_) rfl ?_ ?_
     rotate_left
     · (intro w hSw; go_simp; try with_reducible rfl)
     try simp only [nrm]
     refine tkL 2  (v := ?_) rfl ?_ ?_
     rotate_left
     · (intro w hSw; go_simp; try with_reducible rfl)
     try simp only [nrm]
     refine tkL 3  (v := ?_) rfl ?_ ?_
     rotate_left
     · (intro w hSw; obtain ⟨hsi, hsj, hoi, hoj⟩ := hSw.at hi hj; go_simp; try with_reducible rfl)
     try simp only [nrm]
     refine tkL 5  (v := ?_) rfl ?_ ?_
     rotate_left
     · (intro w hSw; go_simp; try with_reducible rfl)
     try simp only [nrm]
     refine tkL 6  (v := ?_) rfl ?_ ?_
     rotate_left
     · (intro w hSw; go_simp; try with_reducible rfl)
     try simp only [nrm]
     refine tkL 7  (v := ?_) rfl ?_ ?_
     rotate_left
     · (intro w hSw; go_simp; try with_reducible rfl)
     try simp only [nrm]
     refine tkL 8  (v := ?_) rfl ?_ ?_
     rotate_left
     · (intro w hSw; obtain ⟨hsi, hsj, hoi, hoj⟩ := hSw.at hi hj; go_simp; try with_reducible rfl)
     try simp only [nrm]
     refine rdL 4 rfl (fun K2 hK => ?_)
     go_simp
     refine (HVX.out _).mono ?_
     rintro e u2 ⟨rfl, hb⟩
     replace HLN := kH (HLN.out.kept hb)
     replace HBN := kH (HBN.out.trans (hb.mono HBS.out))
     replace HBS := kH (Nat.le_trans HBS.out hb.size)
     clear hb
     unfold An.val
     refine hK.out _ _ (HLN.out) (fun hHeld => ?_)
     clear hK K2
     try simp only [nrm]
     refine rdL 9 rfl (fun K2 hK => ?_)
     go_simp
     refine (HVY.out _).mono ?_
     rintro e u3 ⟨rfl, hb⟩
     replace HLN := kH (HLN.out.kept hb)
     replace HBN := kH (HBN.out.trans (hb.mono HBS.out))
     replace HBS := kH (Nat.le_trans HBS.out hb.size)
     clear hb
     unfold An.val
     refine hK.out _ _ (HLN.out) (fun hHeld => ?_)
     clear hK K2
     try simp only [nrm]
     refine rdL 10 rfl (fun K2 hK => ?_)
     go_simp
     refine (HVZ.out _).mono ?_
     rintro e u4 ⟨rfl, hb⟩
     replace HLN := kH (HLN.out.kept hb)
     replace HBN := kH (HBN.out.trans (hb.mono HBS.out))
     replace HBS := kH (Nat.le_trans HBS.out hb.size)
     clear hb
     unfold An.val
     refine hK.out _ _ (HLN.out) (fun hHeld => ?_)
     clear hK K2
     try simp only [nrm]
     refine rdL 11 rfl (fun K2 hK => ?_)
     go_simp
     have HT10 : Hid (TreeP (u4.alloc (nB2 ny nz)) (fun k => b0 ≤ k) (nd (opO j) [vr 121, vr 122]) ⟨bs (opO j), ⟨#[]⟩, 0, some ⟨u4.heap.size, 0, none⟩, 2, 2⟩) := kH (TreeP.two (HTY.out _ _) (HTZ.out _ _) HBS.out (opO j))
     replace HLN := kH (HLN.out.alloc (nB2 ny nz))
     replace HBN := kH (HBN.out.alloc HBS.out (nB2 ny nz))
     replace HBS : Hid (b0 ≤ (u4.alloc (nB2 ny nz)).heap.size) := kH (by have := HBS.out; simp; omega)
     refine hK.out _ _ (HLN.out) (fun hHeld => ?_)
     clear hK K2
     try simp only [nrm]
     generalize u4.alloc (nB2 ny nz) = u5 at *
     generalize u4.heap.size = g10 at *
     refine tkL 12  (v := ?_) rfl ?_ ?_
     rotate_left
     · (intro w hSw; go_simp; try with_reducible rfl)
     try simp only [nrm]
     refine rdL 13 rfl (fun K2 hK => ?_)
     go_simp
     have HT13 : Hid (TreeP (u5.alloc (.cells #[.string nx.op, .string nx.tx, .int .i64 nx.pl, .slice nx.kp nx.kn nx.kc, .string ⟨(opO j).toArray⟩, .string ⟨#[]⟩, .int .i64 0, .slice (some ⟨g10, 0, none⟩) 2 2] 25)) (fun k => b0 ≤ k) (nd (opO i) [vr 120, nd (opO j) [vr 121, vr 122]]) ⟨bs (opO i), ⟨#[]⟩, 0, some ⟨u5.heap.size, 0, none⟩, 2, 2⟩) := kH (TreeP.two (HTX.out _ _) HT10.out HBS.out (opO i))
     replace HLN := kH (HLN.out.alloc (.cells #[.string nx.op, .string nx.tx, .int .i64 nx.pl, .slice nx.kp nx.kn nx.kc, .string ⟨(opO j).toArray⟩, .string ⟨#[]⟩, .int .i64 0, .slice (some ⟨g10, 0, none⟩) 2 2] 25))
     replace HBN := kH (HBN.out.alloc HBS.out (.cells #[.string nx.op, .string nx.tx, .int .i64 nx.pl, .slice nx.kp nx.kn nx.kc, .string ⟨(opO j).toArray⟩, .string ⟨#[]⟩, .int .i64 0, .slice (some ⟨g10, 0, none⟩) 2 2] 25))
     replace HBS : Hid (b0 ≤ (u5.alloc (.cells #[.string nx.op, .string nx.tx, .int .i64 nx.pl, .slice nx.kp nx.kn nx.kc, .string ⟨(opO j).toArray⟩, .string ⟨#[]⟩, .int .i64 0, .slice (some ⟨g10, 0, none⟩) 2 2] 25)).heap.size) := kH (by have := HBS.out; simp; omega)
     refine hK.out _ _ (HLN.out) (fun hHeld => ?_)
     clear hK K2
     try simp only [nrm]
     generalize u5.alloc (.cells #[.string nx.op, .string nx.tx, .int .i64 nx.pl, .slice nx.kp nx.kn nx.kc, .string ⟨(opO j).toArray⟩, .string ⟨#[]⟩, .int .i64 0, .slice (some ⟨g10, 0, none⟩) 2 2] 25) = u6 at *
     generalize u5.heap.size = g13 at *
     refine tkL 14  (v := ?_) rfl ?_ ?_
     rotate_left
     · (intro w hSw; go_simp; try with_reducible rfl)
     try simp only [nrm]
     have HBX : Hid (Below u0.heap.size u0 u6) := kH (HBU.out ▸ HBN.out)
     replace HN5 := kH (HN5.out.below HBX.out)
     refine wpAnyL_ready (rs := [15]) (by kernel_rfl) (by simp) ?_
     refine AllReadyL.store (o := _) rfl (by decide) (by decide) (fun K2 hK => ?_) AllReadyL.nil
     obtain ⟨z0, z1, z2, z3, zk0, zk1, zk2, zk3⟩ := HN5.out.cells
     go_simp
     refine hK.out _ _ ?_
     clear hK K2 z0 z1 z2 z3 zk0 zk1 zk2 zk3
     try simp only
     refine wpAnyL_done (by kernel_rfl) ?_ _
     have HLX : Hid (∀ g, g < w4.heap.size → g < u0.heap.size → (putA u6 gw ⟨bs (opO i), ⟨#[]⟩, 0, some ⟨g13, 0, none⟩, 2, 2⟩).heap[g]? = u0.heap[g]?) := kH (fun g hg h0 => (putA_block (by have := HG5.out; omega) _).trans (HBX.out.block g h0))
     have HB6 : Hid (Below w.heap.size w (putA u6 gw ⟨bs (opO i), ⟨#[]⟩, 0, some ⟨g13, 0, none⟩, 2, 2⟩)) := kH (below_putA (HB5.out.trans (HBX.out.mono HB5.out.size)) (Nat.le_trans HB4.out.size HG5.out) _)
     have HWN : Hid (BlkA (putA u6 gw ⟨bs (opO i), ⟨#[]⟩, 0, some ⟨g13, 0, none⟩, 2, 2⟩) gw ⟨bs (opO i), ⟨#[]⟩, 0, some ⟨g13, 0, none⟩, 2, 2⟩) := kH (HN5.out.putA _)
     have HTW : Hid (TreeP (putA u6 gw ⟨bs (opO i), ⟨#[]⟩, 0, some ⟨g13, 0, none⟩, 2, 2⟩) (fun k => b0 ≤ k) (nd (opO i) [vr 120, nd (opO j) [vr 121, vr 122]]) ⟨bs (opO i), ⟨#[]⟩, 0, some ⟨g13, 0, none⟩, 2, 2⟩) := kH (HT13.out.putA (g := gw) (fun k hk _ => by have := HGW5.out; have := HBU.out; omega) _)
     have HM6 : Hid (BlkA (putA u6 gw ⟨bs (opO i), ⟨#[]⟩, 0, some ⟨g13, 0, none⟩, 2, 2⟩) gn ⟨bs o1, bs x1, (p1 : Int), some ⟨g1, 0, none⟩, 1, c1⟩) := kH ((HLX.out gn HN4.out.lt HM4.out.lt).trans HM4.out)
     have HC6 := kH (And.intro (HC5.out.1.kept (HLX.out g1 HLT0.out.1 HLT5.out.1)) (And.intro (HC5.out.2.1.kept (HLX.out g2 HLT0.out.2.1 HLT5.out.2.1)) (And.intro (HC5.out.2.2.1.kept (HLX.out g3 HLT0.out.2.2.1 HLT5.out.2.2.1)) (HC5.out.2.2.2.kept (HLX.out g4 HLT0.out.2.2.2 HLT5.out.2.2.2)))))
     have HLT6 : Hid (g1 < (putA u6 gw ⟨bs (opO i), ⟨#[]⟩, 0, some ⟨g13, 0, none⟩, 2, 2⟩).heap.size ∧ g2 < (putA u6 gw ⟨bs (opO i), ⟨#[]⟩, 0, some ⟨g13, 0, none⟩, 2, 2⟩).heap.size ∧ g3 < (putA u6 gw ⟨bs (opO i), ⟨#[]⟩, 0, some ⟨g13, 0, none⟩, 2, 2⟩).heap.size ∧ g4 < (putA u6 gw ⟨bs (opO i), ⟨#[]⟩, 0, some ⟨g13, 0, none⟩, 2, 2⟩).heap.size) := kH (by have h1 := HLT5.out; have h2 := HBX.out.size; rw [putA_size]; omega)
     have HTt : Hid (TreeP (putA u6 gw ⟨bs (opO i), ⟨#[]⟩, 0, some ⟨g13, 0, none⟩, 2, 2⟩) (fun k => k < gw) t m4) := kH ((HT6.out.below HBX.out).putA (g := gw) (fun k hk _ => by omega) _)
     have HFT : Hid (fl t = fl (nd (opO i) [vr 120, nd (opO j) [vr 121, vr 122]])) := kH (by rw [fl_want2, HF.out]; unfold wantO; rw [if_pos hlv])
     show Exit.then _ _ _ _ (putA u6 gw ⟨bs (opO i), ⟨#[]⟩, 0, some ⟨g13, 0, none⟩, 2, 2⟩)
     clear HT13 HN5 HLX
     generalize putA u6 gw ⟨bs (opO i), ⟨#[]⟩, 0, some ⟨g13, 0, none⟩, 2, 2⟩ = u7 at *
     go_wp2
     have HS6 : Hid ((fun Z => BlkA Z gn ⟨bs o1, bs x1, (p1 : Int), some ⟨g1, 0, none⟩, 1, c1⟩ ∧ (CellA Z g1 ⟨bs o2, bs x2, (p2 : Int), some ⟨g2, 0, none⟩, 1, c2⟩ ∧ CellA Z g2 ⟨bs o3, bs x3, (p3 : Int), some ⟨g3, 0, none⟩, 1, c3⟩ ∧ CellA Z g3 ⟨bs o4, bs x4, (p4 : Int), some ⟨g4, 0, none⟩, 1, c4⟩ ∧ CellA Z g4 m4) ∧ BlkA Z gw ⟨bs (opO i), ⟨#[]⟩, 0, some ⟨g13, 0, none⟩, 2, 2⟩) u7.drew) := kH ⟨HM6.out.drew, ⟨HC6.out.1.kept rfl, HC6.out.2.1.kept rfl, HC6.out.2.2.1.kept rfl, HC6.out.2.2.2.kept rfl⟩, HWN.out.drew⟩
     refine wp_region_L (st := [18]) (S := fun Z => BlkA Z gn ⟨bs o1, bs x1, (p1 : Int), some ⟨g1, 0, none⟩, 1, c1⟩ ∧ (CellA Z g1 ⟨bs o2, bs x2, (p2 : Int), some ⟨g2, 0, none⟩, 1, c2⟩ ∧ CellA Z g2 ⟨bs o3, bs x3, (p3 : Int), some ⟨g3, 0, none⟩, 1, c3⟩ ∧ CellA Z g3 ⟨bs o4, bs x4, (p4 : Int), some ⟨g4, 0, none⟩, 1, c4⟩ ∧ CellA Z g4 m4) ∧ BlkA Z gw ⟨bs (opO i), ⟨#[]⟩, 0, some ⟨g13, 0, none⟩, 2, 2⟩) (by kernel_rfl) HS6.out (fun hHeld => ?_)
     replace HB6 := kH HB6.out.drew
     replace HTt := kH HTt.out.drew
     replace HTW := kH HTW.out.drew
     have HKP : Hid (∀ Z : World, Below u7.drew.heap.size u7.drew Z → (fun Z => BlkA Z gn ⟨bs o1, bs x1, (p1 : Int), some ⟨g1, 0, none⟩, 1, c1⟩ ∧ (CellA Z g1 ⟨bs o2, bs x2, (p2 : Int), some ⟨g2, 0, none⟩, 1, c2⟩ ∧ CellA Z g2 ⟨bs o3, bs x3, (p3 : Int), some ⟨g3, 0, none⟩, 1, c3⟩ ∧ CellA Z g3 ⟨bs o4, bs x4, (p4 : Int), some ⟨g4, 0, none⟩, 1, c4⟩ ∧ CellA Z g4 m4) ∧ BlkA Z gw ⟨bs (opO i), ⟨#[]⟩, 0, some ⟨g13, 0, none⟩, 2, 2⟩) Z) := kH (fun Z hb => ⟨HS6.out.1.below hb, ⟨HS6.out.2.1.1.kept (hb.block _ HLT6.out.1), HS6.out.2.1.2.1.kept (hb.block _ HLT6.out.2.1), HS6.out.2.1.2.2.1.kept (hb.block _ HLT6.out.2.2.1), HS6.out.2.1.2.2.2.kept (hb.block _ HLT6.out.2.2.2)⟩, HS6.out.2.2.below hb⟩)
     refine rdL 0 rfl (fun K2 hK => ?_)
     go_simp
     refine (AW.out _ HB6.out).mono ?_
     rintro e w7 ⟨rfl, hb7⟩
     have HB7 := kH (HB6.out.trans (hb7.mono HB6.out.size))
     have HK7 := kH (HKP.out _ hb7)
     have CS := kH (same_any (b := 0) (c := 0) ((HTt.out.below hb7).kept' (fun _ _ _ => rfl) (fun _ _ _ => Nat.zero_le _)) ((HTW.out.below hb7).kept' (fun _ _ _ => rfl) (fun _ _ _ => Nat.zero_le _)) HFT.out)
     have HBZ := kH hb7
     clear hb7
     refine hK.out _ _ (HK7.out) (fun hHeld => ?_)
     clear hK K2
     try simp only [nrm]
     refine tkL 1  (v := ?_) rfl ?_ ?_
     rotate_left
     · (intro w hSw; go_simp; try with_reducible rfl)
     try simp only [nrm]
     refine tkL 2  (v := ?_) rfl ?_ ?_
     rotate_left
     · (intro w hSw; go_simp; try with_reducible rfl)
     try simp only [nrm]
     refine tkL 3  (v := ?_) rfl ?_ ?_
     rotate_left
     · (intro w hSw; obtain ⟨hm, ⟨⟨_, _, _, a3⟩, ⟨_, _, _, b3⟩, ⟨_, _, _, d3⟩, ⟨e0, e1, e2, e3⟩⟩, hw⟩ := hSw; obtain ⟨v0, v1, v2, v3, _, _, _, _⟩ := BlkA.cells hm; obtain ⟨x0, x1, x2, x3, _, _, _, _⟩ := BlkA.cells hw; go_simp; try with_reducible rfl)
     try simp only [nrm]
     refine tkL 4  (v := ?_) rfl ?_ ?_
     rotate_left
     · (intro w hSw; go_simp; try with_reducible rfl)
     try simp only [nrm]
     refine tkL 5  (v := ?_) rfl ?_ ?_
     rotate_left
     · (intro w hSw; go_simp; try with_reducible rfl)
     try simp only [nrm]
     refine tkL 6  (v := ?_) rfl ?_ ?_
     rotate_left
     · (intro w hSw; obtain ⟨hm, ⟨⟨_, _, _, a3⟩, ⟨_, _, _, b3⟩, ⟨_, _, _, d3⟩, ⟨e0, e1, e2, e3⟩⟩, hw⟩ := hSw; obtain ⟨v0, v1, v2, v3, _, _, _, _⟩ := BlkA.cells hm; obtain ⟨x0, x1, x2, x3, _, _, _, _⟩ := BlkA.cells hw; go_simp; try with_reducible rfl)
     try simp only [nrm]
     refine tkL 7  (v := ?_) rfl ?_ ?_
     rotate_left
     · (intro w hSw; go_simp; try with_reducible rfl)
     try simp only [nrm]
     refine tkL 8  (v := ?_) rfl ?_ ?_
     rotate_left
     · (intro w hSw; go_simp; try with_reducible rfl)
     try simp only [nrm]
     refine tkL 9  (v := ?_) rfl ?_ ?_
     rotate_left
     · (intro w hSw; obtain ⟨hm, ⟨⟨_, _, _, a3⟩, ⟨_, _, _, b3⟩, ⟨_, _, _, d3⟩, ⟨e0, e1, e2, e3⟩⟩, hw⟩ := hSw; obtain ⟨v0, v1, v2, v3, _, _, _, _⟩ := BlkA.cells hm; obtain ⟨x0, x1, x2, x3, _, _, _, _⟩ := BlkA.cells hw; go_simp; try with_reducible rfl)
     try simp only [nrm]
     refine tkL 10  (v := ?_) rfl ?_ ?_
     rotate_left
     · (intro w hSw; go_simp; try with_reducible rfl)
     try simp only [nrm]
     refine tkL 11  (v := ?_) rfl ?_ ?_
     rotate_left
     · (intro w hSw; go_simp; try with_reducible rfl)
     try simp only [nrm]
     refine tkL 12  (v := ?_) rfl ?_ ?_
     rotate_left
     · (intro w hSw; obtain ⟨hm, ⟨⟨_, _, _, a3⟩, ⟨_, _, _, b3⟩, ⟨_, _, _, d3⟩, ⟨e0, e1, e2, e3⟩⟩, hw⟩ := hSw; obtain ⟨v0, v1, v2, v3, _, _, _, _⟩ := BlkA.cells hm; obtain ⟨x0, x1, x2, x3, _, _, _, _⟩ := BlkA.cells hw; go_simp; try with_reducible rfl)
     try simp only [nrm]
     refine tkL 13  (v := ?_) rfl ?_ ?_
     rotate_left
     · (intro w hSw; go_simp; try with_reducible rfl)
     try simp only [nrm]
     refine tkL 14  (v := ?_) rfl ?_ ?_
     rotate_left
     · (intro w hSw; obtain ⟨hm, ⟨⟨_, _, _, a3⟩, ⟨_, _, _, b3⟩, ⟨_, _, _, d3⟩, ⟨e0, e1, e2, e3⟩⟩, hw⟩ := hSw; obtain ⟨v0, v1, v2, v3, _, _, _, _⟩ := BlkA.cells hm; obtain ⟨x0, x1, x2, x3, _, _, _, _⟩ := BlkA.cells hw; go_simp; try with_reducible rfl)
     try simp only [nrm]
     refine tkL 15  (v := ?_) rfl ?_ ?_
     rotate_left
     · (intro w hSw; obtain ⟨hm, ⟨⟨_, _, _, a3⟩, ⟨_, _, _, b3⟩, ⟨_, _, _, d3⟩, ⟨e0, e1, e2, e3⟩⟩, hw⟩ := hSw; obtain ⟨v0, v1, v2, v3, _, _, _, _⟩ := BlkA.cells hm; obtain ⟨x0, x1, x2, x3, _, _, _, _⟩ := BlkA.cells hw; go_simp; try with_reducible rfl)
     try simp only [nrm]
     refine rdL 16 rfl (fun K2 hK => ?_)
     go_simp
     refine CS.out.mono ?_
     rintro e w8 ⟨rfl, hb8⟩
     have HB8 := kH (HB7.out.trans (hb8.mono HB7.out.size))
     have HK8 := kH (HKP.out _ (HBZ.out.trans (hb8.mono HBZ.out.size)))
     clear hb8
     refine hK.out _ _ (HK8.out) (fun hHeld => ?_)
     clear hK K2
     try simp only [nrm]
     refine tkL 17  (v := ?_) rfl ?_ ?_
     rotate_left
     · (intro w hSw; go_simp; try with_reducible rfl)
     try simp only [nrm]
     refine wpAnyL_ready (rs := [18]) (by kernel_rfl) (by simp) ?_
     refine AllReadyL.store (o := _) rfl (by decide) (by decide) (fun K2 hK => ?_) AllReadyL.nil
     go_simp
     refine hK.out _ _ ?_
     clear hK K2
     try simp only
     refine wpAnyL_done (by kernel_rfl) ?_ _
     go_wp2_with fail
     go_ret
     exact ⟨rfl, HB8.out⟩
    ·
     have hlvi : ¬ (lv i : Int) < (lv j : Int) := by omega
     go_region
     clear hli5 hlj5
     replace HB5 := kH HB5.out.drew
     replace HN5 := kH HN5.out.drew
     replace HT5 := kH HT5.out.drew
     replace HL5 := kH HL5.out.drew
     replace HM4 := kH HM4.out.drew
     replace HT6 := kH HT6.out.drew
     replace HC5 := kH (And.intro (CellA.kept (w' := w5.drew) HC5.out.1 rfl) (And.intro (CellA.kept (w' := w5.drew) HC5.out.2.1 rfl) (And.intro (CellA.kept (w' := w5.drew) HC5.out.2.2.1 rfl) (CellA.kept (w' := w5.drew) HC5.out.2.2.2 rfl))))
     replace HLT5 : Hid (g1 < w5.drew.heap.size ∧ g2 < w5.drew.heap.size ∧ g3 < w5.drew.heap.size ∧ g4 < w5.drew.heap.size) := kH HLT5.out
     have HGW5 : Hid (gw < w5.drew.heap.size) := kH HN5.out.lt
     generalize w5.drew = u0 at *
     have HB6 := HB5
     have HWN := HN5
     have HTW := HT5
     have HM6 := HM4
     have HC6 := HC5
     have HLT6 := HLT5
     have HTt := HT6
     have HFT : Hid (fl t = fl (nd (opO j) [nd (opO i) [vr 120, vr 121], vr 122])) := kH (by rw [fl_want1, HF.out]; unfold wantO; rw [if_neg (by omega)])
     go_wp2
     have HS6 : Hid ((fun Z => BlkA Z gn ⟨bs o1, bs x1, (p1 : Int), some ⟨g1, 0, none⟩, 1, c1⟩ ∧ (CellA Z g1 ⟨bs o2, bs x2, (p2 : Int), some ⟨g2, 0, none⟩, 1, c2⟩ ∧ CellA Z g2 ⟨bs o3, bs x3, (p3 : Int), some ⟨g3, 0, none⟩, 1, c3⟩ ∧ CellA Z g3 ⟨bs o4, bs x4, (p4 : Int), some ⟨g4, 0, none⟩, 1, c4⟩ ∧ CellA Z g4 m4) ∧ BlkA Z gw nw) u0.drew) := kH ⟨HM6.out.drew, ⟨HC6.out.1.kept rfl, HC6.out.2.1.kept rfl, HC6.out.2.2.1.kept rfl, HC6.out.2.2.2.kept rfl⟩, HWN.out.drew⟩
     refine wp_region_L (st := [18]) (S := fun Z => BlkA Z gn ⟨bs o1, bs x1, (p1 : Int), some ⟨g1, 0, none⟩, 1, c1⟩ ∧ (CellA Z g1 ⟨bs o2, bs x2, (p2 : Int), some ⟨g2, 0, none⟩, 1, c2⟩ ∧ CellA Z g2 ⟨bs o3, bs x3, (p3 : Int), some ⟨g3, 0, none⟩, 1, c3⟩ ∧ CellA Z g3 ⟨bs o4, bs x4, (p4 : Int), some ⟨g4, 0, none⟩, 1, c4⟩ ∧ CellA Z g4 m4) ∧ BlkA Z gw nw) (by kernel_rfl) HS6.out (fun hHeld => ?_)
     replace HB6 := kH HB6.out.drew
     replace HTt := kH HTt.out.drew
     replace HTW := kH HTW.out.drew
     have HKP : Hid (∀ Z : World, Below u0.drew.heap.size u0.drew Z → (fun Z => BlkA Z gn ⟨bs o1, bs x1, (p1 : Int), some ⟨g1, 0, none⟩, 1, c1⟩ ∧ (CellA Z g1 ⟨bs o2, bs x2, (p2 : Int), some ⟨g2, 0, none⟩, 1, c2⟩ ∧ CellA Z g2 ⟨bs o3, bs x3, (p3 : Int), some ⟨g3, 0, none⟩, 1, c3⟩ ∧ CellA Z g3 ⟨bs o4, bs x4, (p4 : Int), some ⟨g4, 0, none⟩, 1, c4⟩ ∧ CellA Z g4 m4) ∧ BlkA Z gw nw) Z) := kH (fun Z hb => ⟨HS6.out.1.below hb, ⟨HS6.out.2.1.1.kept (hb.block _ HLT6.out.1), HS6.out.2.1.2.1.kept (hb.block _ HLT6.out.2.1), HS6.out.2.1.2.2.1.kept (hb.block _ HLT6.out.2.2.1), HS6.out.2.1.2.2.2.kept (hb.block _ HLT6.out.2.2.2)⟩, HS6.out.2.2.below hb⟩)
     refine rdL 0 rfl (fun K2 hK => ?_)
     go_simp
     refine (AW.out _ HB6.out).mono ?_
     rintro e w7 ⟨rfl, hb7⟩
     have HB7 := kH (HB6.out.trans (hb7.mono HB6.out.size))
     have HK7 := kH (HKP.out _ hb7)
     have CS := kH (same_any (b := 0) (c := 0) ((HTt.out.below hb7).kept' (fun _ _ _ => rfl) (fun _ _ _ => Nat.zero_le _)) ((HTW.out.below hb7).kept' (fun _ _ _ => rfl) (fun _ _ _ => Nat.zero_le _)) HFT.out)
     have HBZ := kH hb7
     clear hb7
     refine hK.out _ _ (HK7.out) (fun hHeld => ?_)
     clear hK K2
     try simp only [nrm]
     refine tkL 1  (v := ?_) rfl ?_ ?_
     rotate_left
     · (intro w hSw; go_simp; try with_reducible rfl)
     try simp only [nrm]
     refine tkL 2  (v := ?_) rfl ?_ ?_
     rotate_left
     · (intro w hSw; go_simp; try with_reducible rfl)
     try simp only [nrm]
     refine tkL 3  (v := ?_) rfl ?_ ?_
     rotate_left
     · (intro w hSw; obtain ⟨hm, ⟨⟨_, _, _, a3⟩, ⟨_, _, _, b3⟩, ⟨_, _, _, d3⟩, ⟨e0, e1, e2, e3⟩⟩, hw⟩ := hSw; obtain ⟨v0, v1, v2, v3, _, _, _, _⟩ := BlkA.cells hm; obtain ⟨x0, x1, x2, x3, _, _, _, _⟩ := BlkA.cells hw; go_simp; try with_reducible rfl)
     try simp only [nrm]
     refine tkL 4  (v := ?_) rfl ?_ ?_
     rotate_left
     · (intro w hSw; go_simp; try with_reducible rfl)
     try simp only [nrm]
     refine tkL 5  (v := ?_) rfl ?_ ?_
     rotate_left
     · (intro w hSw; go_simp; try with_reducible rfl)
     try simp only [nrm]
     refine tkL 6  (v := ?_) rfl ?_ ?_
     rotate_left
     · (intro w hSw; obtain ⟨hm, ⟨⟨_, _, _, a3⟩, ⟨_, _, _, b3⟩, ⟨_, _, _, d3⟩, ⟨e0, e1, e2, e3⟩⟩, hw⟩ := hSw; obtain ⟨v0, v1, v2, v3, _, _, _, _⟩ := BlkA.cells hm; obtain ⟨x0, x1, x2, x3, _, _, _, _⟩ := BlkA.cells hw; go_simp; try with_reducible rfl)
     try simp only [nrm]
     refine tkL 7  (v := ?_) rfl ?_ ?_
     rotate_left
     · (intro w hSw; go_simp; try with_reducible rfl)
     try simp only [nrm]
     refine tkL 8  (v := ?_) rfl ?_ ?_
     rotate_left
     · (intro w hSw; go_simp; try with_reducible rfl)
     try simp only [nrm]
     refine tkL 9  (v := ?_) rfl ?_ ?_
     rotate_left
     · (intro w hSw; obtain ⟨hm, ⟨⟨_, _, _, a3⟩, ⟨_, _, _, b3⟩, ⟨_, _, _, d3⟩, ⟨e0, e1, e2, e3⟩⟩, hw⟩ := hSw; obtain ⟨v0, v1, v2, v3, _, _, _, _⟩ := BlkA.cells hm; obtain ⟨x0, x1, x2, x3, _, _, _, _⟩ := BlkA.cells hw; go_simp; try with_reducible rfl)
     try simp only [nrm]
     refine tkL 10  (v := ?_) rfl ?_ ?_
     rotate_left
     · (intro w hSw; go_simp; try with_reducible rfl)
     try simp only [nrm]
     refine tkL 11  (v := ?_) rfl ?_ ?_
     rotate_left
     · (intro w hSw; go_simp; try with_reducible rfl)
     try simp only [nrm]
     refine tkL 12  (v := ?_) rfl ?_ ?_
     rotate_left
     · (intro w hSw; obtain ⟨hm, ⟨⟨_, _, _, a3⟩, ⟨_, _, _, b3⟩, ⟨_, _, _, d3⟩, ⟨e0, e1, e2, e3⟩⟩, hw⟩ := hSw; obtain ⟨v0, v1, v2, v3, _, _, _, _⟩ := BlkA.cells hm; obtain ⟨x0, x1, x2, x3, _, _, _, _⟩ := BlkA.cells hw; go_simp; try with_reducible rfl)
     try simp only [nrm]
     refine tkL 13  (v := ?_) rfl ?_ ?_
     rotate_left
     · (intro w hSw; go_simp; try with_reducible rfl)
     try simp only [nrm]
     refine tkL 14  (v := ?_) rfl ?_ ?_
     rotate_left
     · (intro w hSw; obtain ⟨hm, ⟨⟨_, _, _, a3⟩, ⟨_, _, _, b3⟩, ⟨_, _, _, d3⟩, ⟨e0, e1, e2, e3⟩⟩, hw⟩ := hSw; obtain ⟨v0, v1, v2, v3, _, _, _, _⟩ := BlkA.cells hm; obtain ⟨x0, x1, x2, x3, _, _, _, _⟩ := BlkA.cells hw; go_simp; try with_reducible rfl)
     try simp only [nrm]
     refine tkL 15  (v := ?_) rfl ?_ ?_
     rotate_left
     · (intro w hSw; obtain ⟨hm, ⟨⟨_, _, _, a3⟩, ⟨_, _, _, b3⟩, ⟨_, _, _, d3⟩, ⟨e0, e1, e2, e3⟩⟩, hw⟩ := hSw; obtain ⟨v0, v1, v2, v3, _, _, _, _⟩ := BlkA.cells hm; obtain ⟨x0, x1, x2, x3, _, _, _, _⟩ := BlkA.cells hw; go_simp; try with_reducible rfl)
     try simp only [nrm]
     refine rdL 16 rfl (fun K2 hK => ?_)
     go_simp
     refine CS.out.mono ?_
     rintro e w8 ⟨rfl, hb8⟩
     have HB8 := kH (HB7.out.trans (hb8.mono HB7.out.size))
     have HK8 := kH (HKP.out _ (HBZ.out.trans (hb8.mono HBZ.out.size)))
     clear hb8
     refine hK.out _ _ (HK8.out) (fun hHeld => ?_)
     clear hK K2
     try simp only [nrm]
     refine tkL 17  (v := ?_) rfl ?_ ?_
     rotate_left
     · (intro w hSw; go_simp; try with_reducible rfl)
     try simp only [nrm]
     refine wpAnyL_ready (rs := [18]) (by kernel_rfl) (by simp) ?_
     refine AllReadyL.store (o := _) rfl (by decide) (by decide) (fun K2 hK => ?_) AllReadyL.nil
     go_simp
     refine hK.out _ _ ?_
     clear hK K2
     try simp only
     refine wpAnyL_done (by kernel_rfl) ?_ _
     go_wp2_with fail
     go_ret
     exact ⟨rfl, HB8.out⟩
end Go.Proofs.YtmbfdkiejneheaaGreatDoor
