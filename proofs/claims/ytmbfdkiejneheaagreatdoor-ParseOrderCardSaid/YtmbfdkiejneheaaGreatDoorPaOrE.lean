/-
 THE WALK of the law ParseOrder: two numbers that name signs.
-/
import Derived.Test.YtmbfdkiejneheaaGreatDoorPaOrW
namespace Go.Proofs.YtmbfdkiejneheaaGreatDoor
open Go.RowKit

theorem via_read {P : Program} {c : Code} {a : Act} {w : World} {Q : Exit → Act → World → Prop} (F : Value → Value → Value → World → Prop)
  (h : ∀ Q' : Exit → Act → World → Prop, (∀ c a w, ¬ Q' (.panic c) a w) → (∀ (v35 v36 v37 v38 v39 v40 v41 v42 v43 v44 v45 v46 v47 v34 v48 v49 v50 v8 v9 v10 : Value) (w' : World), F v8 v9 v10 w' → Q' .normal ((((((((((((((((((((a.put (some 35) v35).put (some 36) v36).put (some 37) v37).put (some 38) v38).put (some 39) v39).put (some 40) v40).put (some 41) v41).put (some 42) v42).put (some 43) v43).put (some 44) v44).put (some 45) v45).put (some 46) v46).put (some 47) v47).put (some 34) v34).put (some 48) v48).put (some 49) v49).put (some 50) v50).put (some 8) v8).put (some 9) v9).put (some 10) v10) w') → Code.wp P c Q' a w)
  (k : ∀ (v35 v36 v37 v38 v39 v40 v41 v42 v43 v44 v45 v46 v47 v34 v48 v49 v50 v8 v9 v10 : Value) (w' : World), F v8 v9 v10 w' → Q .normal ((((((((((((((((((((a.put (some 35) v35).put (some 36) v36).put (some 37) v37).put (some 38) v38).put (some 39) v39).put (some 40) v40).put (some 41) v41).put (some 42) v42).put (some 43) v43).put (some 44) v44).put (some 45) v45).put (some 46) v46).put (some 47) v47).put (some 34) v34).put (some 48) v48).put (some 49) v49).put (some 50) v50).put (some 8) v8).put (some 9) v9).put (some 10) v10) w') : Code.wp P c Q a w :=
 wp_mono (Q := NoP Q) (h (NoP Q) (fun c _ _ h => h.1 c rfl) (fun v35 v36 v37 v38 v39 v40 v41 v42 v43 v44 v45 v46 v47 v34 v48 v49 v50 v8 v9 v10 w' hF => ⟨fun c h => (by cases h), k v35 v36 v37 v38 v39 v40 v41 v42 v43 v44 v45 v46 v47 v34 v48 v49 v50 v8 v9 v10 w' hF⟩)) (fun _ _ _ h => h.2)
theorem via_want {P : Program} {c : Code} {a : Act} {w : World} {Q : Exit → Act → World → Prop} (F : Value → World → Prop)
  (h : ∀ Q' : Exit → Act → World → Prop, (∀ c a w, ¬ Q' (.panic c) a w) → (∀ (v70 v71 v72 v73 v74 v75 v76 v77 v78 v79 v80 v81 v82 v83 v84 v11 : Value) (w' : World), F v11 w' → Q' .normal ((((((((((((((((a.put (some 70) v70).put (some 71) v71).put (some 72) v72).put (some 73) v73).put (some 74) v74).put (some 75) v75).put (some 76) v76).put (some 77) v77).put (some 78) v78).put (some 79) v79).put (some 80) v80).put (some 81) v81).put (some 82) v82).put (some 83) v83).put (some 84) v84).put (some 11) v11) w') → Code.wp P c Q' a w)
  (k : ∀ (v70 v71 v72 v73 v74 v75 v76 v77 v78 v79 v80 v81 v82 v83 v84 v11 : Value) (w' : World), F v11 w' → Q .normal ((((((((((((((((a.put (some 70) v70).put (some 71) v71).put (some 72) v72).put (some 73) v73).put (some 74) v74).put (some 75) v75).put (some 76) v76).put (some 77) v77).put (some 78) v78).put (some 79) v79).put (some 80) v80).put (some 81) v81).put (some 82) v82).put (some 83) v83).put (some 84) v84).put (some 11) v11) w') : Code.wp P c Q a w :=
 wp_mono (Q := NoP Q) (h (NoP Q) (fun c _ _ h => h.1 c rfl) (fun v70 v71 v72 v73 v74 v75 v76 v77 v78 v79 v80 v81 v82 v83 v84 v11 w' hF => ⟨fun c h => (by cases h), k v70 v71 v72 v73 v74 v75 v76 v77 v78 v79 v80 v81 v82 v83 v84 v11 w' hF⟩)) (fun _ _ _ h => h.2)
set_option maxHeartbeats 8000000 in
set_option maxRecDepth 100000 in
theorem var_any (s : ByteArray) (w : World) : Calls Tryz.prog 14 #[.string s] w fun e w' => e = .returned (An.val ⟨bs oVar, s, 0, none, 0, 0⟩) ∧ Below w.heap.size w w' := by
 have HB := kH ((Below.refl w.heap.size w).alloc (Nat.le_refl _) zN)
 have HN := kH (BlkA.new0 w)
 go_enter Tryz.func14, Tryz.ntmps14
 go_wp2_with fail
 exact bodyPost_ret (v := An.val ⟨bs oVar, s, 0, none, 0, 0⟩) (by simp [results, Tryz.results14, go_sem, An.val] <;> rfl) rfl ⟨rfl, (Below.refl w.heap.size w).alloc (Nat.le_refl _) _⟩
/-- What is kept while the law makes what it wants: ahead of the block that holds it, and behind. -/
structure Cy (w4 : World) (b0 g : Nat) (W : World) : Prop where
 l : Ls W g
 b : Below b0 w4 W
 s : b0 ≤ W.heap.size
structure Cz (w4 : World) (b0 g gw : Nat) (W : World) : Prop where
 l : Ls W g
 b : Below b0 w4 W
 s : b0 ≤ W.heap.size
 n : BlkA W gw An.zero
 w : b0 ≤ gw
section
variable {w4 W W' : World} {b0 g gw : Nat}
theorem Cy.step (h : Cy w4 b0 g W) (hb : Below W.heap.size W W') : Cy w4 b0 g W' := ⟨h.l.kept hb, h.b.trans (hb.mono h.s), Nat.le_trans h.s hb.size⟩
theorem Cz.step (h : Cz w4 b0 g gw W) (hb : Below W.heap.size W W') : Cz w4 b0 g gw W' := ⟨h.l.kept hb, h.b.trans (hb.mono h.s), Nat.le_trans h.s hb.size, h.n.below hb, h.w⟩
theorem Cy.new (h : Cy w4 b0 g W) (o : Obj) : Cy w4 b0 g (W.alloc o) := h.step ((Below.refl _ _).alloc (Nat.le_refl _) o)
theorem Cz.new (h : Cz w4 b0 g gw W) (o : Obj) : Cz w4 b0 g gw (W.alloc o) := h.step ((Below.refl _ _).alloc (Nat.le_refl _) o)
theorem Cy.got (h : Cy w4 b0 g W) : Cz w4 b0 g W.heap.size (W.alloc zN) := ⟨(h.new _).l, (h.new _).b, (h.new _).s, BlkA.new0 W, h.s⟩
theorem Cz.hb (h : Cz w4 b0 g gw W) : b0 ≤ W.heap.size ∧ W.heap.size ≠ gw := ⟨h.s, Nat.ne_of_gt h.n.lt⟩
theorem TreeP.new15 {T : PT} {N : An} (h : TreeP W (fun k => b0 ≤ k) T N) (_hs : b0 ≤ W.heap.size) (o : Obj) : TreeP (W.alloc o) (fun k => b0 ≤ k ∧ k ≠ W.heap.size) T N :=
 (h.kept' (B' := fun k => b0 ≤ k ∧ k ≠ W.heap.size) (fun _ _ _ => rfl) (fun k hk hl => ⟨hk, by omega⟩)).below ((Below.refl _ _).alloc (Nat.le_refl _) o)
theorem TreeP.new {B : Nat → Prop} {T : PT} {N : An} (h : TreeP W B T N) (o : Obj) : TreeP (W.alloc o) B T N := h.below ((Below.refl _ _).alloc (Nat.le_refl _) o)
theorem Cz.fin (h : Cz w4 b0 g gw W) (N : An) {T : PT} (ht : TreeP W (fun k => b0 ≤ k ∧ k ≠ gw) T N) : ∃ gw' nw, Value.pointer (some ⟨gw, 0, none⟩) = .pointer (some ⟨gw', 0, none⟩) ∧ BlkA (putA W gw N) gw' nw ∧ TreeP (putA W gw N) (fun k => b0 ≤ k ∧ k ≠ gw') T nw ∧ b0 ≤ gw' ∧ Below b0 w4 (putA W gw N) :=
 ⟨gw, N, rfl, h.n.putA N, ht.putA (g := gw) (fun _ hk _ => hk.2) N, h.w, below_putA h.b h.w N⟩
end
set_option maxHeartbeats 8000000 in
set_option maxRecDepth 100000 in
theorem varx (c : UInt8) : ∃ nx : An, (∀ W, Calls Tryz.prog 14 #[.string ⟨#[c]⟩] W fun e w' => e = .returned (An.val nx) ∧ Below W.heap.size W w') ∧ ∀ (W : World) (B : Nat → Prop), TreeP W B (vr c) nx :=
 ⟨⟨bs oVar, ⟨#[c]⟩, 0, none, 0, 0⟩, fun W => var_any ⟨#[c]⟩ W, fun W B => TreeP.leaf W B oVar [c] 0⟩
set_option maxHeartbeats 8000000 in
set_option maxRecDepth 100000 in
theorem order_err (i j : Nat) (hi : i < 10) (hj : j < 10) (h3 : i = 3) (h4 : j = 3) (p : Nat) (hp : parseL (ordS i j) = .error (p, 9)) (w : World) (htab : Tabs w) :
  Calls Tryz.prog 8 #[.int .i64 (i : Int), .int .i64 (j : Int)] w fun e w' => e = .returned (.bool true) ∧ Below w.heap.size w w' := by
 have AW := kH fun W (hW : Below w.heap.size w W) => awake_any W (htab.next hW)
 have HB0 := kH (Below.refl w.heap.size w)
 have HB1 := kH (((HB0.out.alloc (Nat.le_refl _) (.cells #[.string ⟨#[124, 124]⟩, .string ⟨#[38, 38]⟩, .string ⟨#[126]⟩, .string ⟨#[60]⟩, .string ⟨#[43]⟩, .string ⟨#[42]⟩, .string ⟨#[45]⟩, .string ⟨#[47]⟩, .string ⟨#[37]⟩, .string ⟨#[33, 126]⟩] 9)).alloc (by simp) (.cells #[.int .i64 1, .int .i64 2, .int .i64 3, .int .i64 4, .int .i64 5, .int .i64 6, .int .i64 5, .int .i64 6, .int .i64 6, .int .i64 3] 3)).alloc (by simp only [World.size_alloc]; omega) (.cells #[.string ⟨#[111, 114]⟩, .string ⟨#[97, 110, 100]⟩, .string ⟨#[109, 97, 116, 99, 104]⟩, .string ⟨#[108, 101, 115, 115]⟩, .string ⟨#[97, 100, 100]⟩, .string ⟨#[109, 117, 108]⟩, .string ⟨#[115, 117, 98]⟩, .string ⟨#[100, 105, 118]⟩, .string ⟨#[109, 111, 100]⟩, .string ⟨#[110, 111, 109, 97, 116, 99, 104]⟩] 9))
 have HV := kH fun s W => var_any s W
 have hi2 : (i : Int) < 10 := by omega
 have hj2 : (j : Int) < 10 := by omega
 have hi0 : (0 : Int) ≤ (i : Int) := by omega
 have hj0 : (0 : Int) ≤ (j : Int) := by omega
 clear htab
 go_enter Tryz.func8, Tryz.ntmps8
 have HL := kH (Ls.new w)
 go_wp2
 generalize ((w.alloc (.cells #[.string ⟨#[124, 124]⟩, .string ⟨#[38, 38]⟩, .string ⟨#[126]⟩, .string ⟨#[60]⟩, .string ⟨#[43]⟩, .string ⟨#[42]⟩, .string ⟨#[45]⟩, .string ⟨#[47]⟩, .string ⟨#[37]⟩, .string ⟨#[33, 126]⟩] 9)).alloc (.cells #[.int .i64 1, .int .i64 2, .int .i64 3, .int .i64 4, .int .i64 5, .int .i64 6, .int .i64 5, .int .i64 6, .int .i64 6, .int .i64 3] 3)).alloc (.cells #[.string ⟨#[111, 114]⟩, .string ⟨#[97, 110, 100]⟩, .string ⟨#[109, 97, 116, 99, 104]⟩, .string ⟨#[108, 101, 115, 115]⟩, .string ⟨#[97, 100, 100]⟩, .string ⟨#[109, 117, 108]⟩, .string ⟨#[115, 117, 98]⟩, .string ⟨#[100, 105, 118]⟩, .string ⟨#[109, 111, 100]⟩, .string ⟨#[110, 111, 109, 97, 116, 99, 104]⟩] 9) = w1 at *
 have hli := sg_len hi
 have hlj := sg_len hj
 have q1 : ¬ 9223372036854775807 < 8 + (sg i).length := by omega
 have q2 : ¬ 9223372036854775807 < 8 + (sg i).length + 3 := by omega
 have q3 : ¬ 9223372036854775807 < 8 + (sg i).length + 3 + (sg j).length := by omega
 have q4 : ¬ 9223372036854775807 < 8 + (sg i).length + 3 + (sg j).length + 3 := by omega
 have CP := kH fun W => parse_any (ordB i j) W (by have := ordB_size hi hj; omega)
 rw [ordB_eq] at CP
 unfold ordB at CP
 rw [hp] at CP
 have H34 := kH (And.intro h3 h4)
 clear h3 h4 hp
 refine via_read (fun _ v9 v10 W => v9 = .int .i64 (p : Int) ∧ v10 = .int .i64 9 ∧ Below w.heap.size w W) (fun Q' hNP hQ' => ?_) ?_
 ·
  simp only [nrm] at hQ'
  have HQ := kH hQ'
  have HNP := kH hNP
  clear hQ' hNP
  have HLD := kH HL.out.drew
  refine wp_region_L (st := [20]) (S := fun Z => Ls Z w.heap.size) (by kernel_rfl) (HL.out.drew) (fun hHeld => ?_)
  have HB1 := kH HB1.out.drew
  generalize w1.drew = wd at *
  refine tkL 0 (hQ := fun c _ _ h => absurd h (HNP.out c _ _)) (v := ?_) rfl ?_ ?_
  rotate_left
  · (intro w hSw; go_simp; try with_reducible rfl)
  try simp only [nrm]
  refine tkL 1 (hQ := fun c _ _ h => absurd h (HNP.out c _ _)) (v := ?_) rfl ?_ ?_
  rotate_left
  · (intro w hSw; go_simp; try with_reducible rfl)
  try simp only [nrm]
  refine tkL 2 (hQ := fun c _ _ h => absurd h (HNP.out c _ _)) (v := ?_) rfl ?_ ?_
  rotate_left
  · (intro w hSw; go_simp; try with_reducible rfl)
  try simp only [nrm]
  refine tkL 3 (hQ := fun c _ _ h => absurd h (HNP.out c _ _)) (v := ?_) rfl ?_ ?_
  rotate_left
  · (intro w hSw; obtain ⟨hsi, hsj, hoi, hoj⟩ := hSw.at hi hj; go_simp; try with_reducible rfl)
  try simp only [nrm]
  refine tkL 4 (hQ := fun c _ _ h => absurd h (HNP.out c _ _)) (v := ?_) rfl ?_ ?_
  rotate_left
  · (intro w hSw; go_simp; try with_reducible rfl)
  try simp only [nrm]
  refine tkL 5 (hQ := fun c _ _ h => absurd h (HNP.out c _ _)) (v := ?_) rfl ?_ ?_
  rotate_left
  · (intro w hSw; go_simp; try with_reducible rfl)
  try simp only [nrm]
  refine tkL 6 (hQ := fun c _ _ h => absurd h (HNP.out c _ _)) (v := ?_) rfl ?_ ?_
  rotate_left
  · (intro w hSw; go_simp; try with_reducible rfl)
  try simp only [nrm]
  refine tkL 7 (hQ := fun c _ _ h => absurd h (HNP.out c _ _)) (v := ?_) rfl ?_ ?_
  rotate_left
  · (intro w hSw; go_simp; try with_reducible rfl)
  try simp only [nrm]
  refine tkL 8 (hQ := fun c _ _ h => absurd h (HNP.out c _ _)) (v := ?_) rfl ?_ ?_
  rotate_left
  · (intro w hSw; go_simp; try with_reducible rfl)
  try simp only [nrm]
  refine tkL 9 (hQ := fun c _ _ h => absurd h (HNP.out c _ _)) (v := ?_) rfl ?_ ?_
  rotate_left
  · (intro w hSw; obtain ⟨hsi, hsj, hoi, hoj⟩ := hSw.at hi hj; go_simp; try with_reducible rfl)
  try simp only [nrm]
  refine tkL 10 (hQ := fun c _ _ h => absurd h (HNP.out c _ _)) (v := ?_) rfl ?_ ?_
  rotate_left
  · (intro w hSw; go_simp; try with_reducible rfl)
  try simp only [nrm]
  refine tkL 11 (hQ := fun c _ _ h => absurd h (HNP.out c _ _)) (v := ?_) rfl ?_ ?_
  rotate_left
  · (intro w hSw; go_simp; try with_reducible rfl)
  try simp only [nrm]
  refine wpAnyL_ready (rs := [12, 17]) (by kernel_rfl) (by simp) ?_
  refine AllReadyL.cons (o := _) rfl (fun K2 hK => ?_) (AllReadyL.cons (o := _) rfl (fun K2 hK => ?_) AllReadyL.nil)
  ·
   go_simp
   refine (CP.out _).mono ?_
   rintro e w2 ⟨hb2, rfl⟩
   have HL2 := kH (hHeld.kept hb2)
   have HB2 := kH (HB1.out.trans (hb2.mono HB1.out.size))
   clear hb2
   refine hK.out _ _ (HL2.out) (fun hHeld => ?_)
   clear hK K2
   try simp only
   refine tkL 13 (hQ := fun c _ _ h => absurd h (HNP.out c _ _)) (v := ?_) rfl ?_ ?_
   rotate_left
   · (intro w hSw; go_simp; try with_reducible rfl)
   try simp only [nrm]
   refine tkL 14 (hQ := fun c _ _ h => absurd h (HNP.out c _ _)) (v := ?_) rfl ?_ ?_
   rotate_left
   · (intro w hSw; go_simp; try with_reducible rfl)
   try simp only [nrm]
   refine tkL 15 (hQ := fun c _ _ h => absurd h (HNP.out c _ _)) (v := ?_) rfl ?_ ?_
   rotate_left
   · (intro w hSw; go_simp; try with_reducible rfl)
   try simp only [nrm]
   refine tkL 16 (hQ := fun c _ _ h => absurd h (HNP.out c _ _)) (v := ?_) rfl ?_ ?_
   rotate_left
   · (intro w hSw; go_simp; try with_reducible rfl)
   try simp only [nrm]
   refine rdL 17 rfl (fun K2 hK => ?_)
   go_simp
   refine hK.out _ _ (HL2.out.alloc _) (fun hHeld => ?_)
   clear hK K2
   try simp only [nrm]
   have HN2 := kH (BlkA.new0 w2)
   have HG : Hid (w.heap.size + 1 + 1 < w2.heap.size ∧ w.heap.size ≤ w2.heap.size) := kH ⟨HL2.out.lt, by have := HL2.out.lt; omega⟩
   have HL2 := kH (HL2.out.alloc zN)
   have HB2 := kH (HB2.out.alloc HB2.out.size zN)
   generalize w2.alloc zN = w3 at *
   generalize w2.heap.size = gn at *
   refine rdL 18 rfl (fun K2 hK => ?_)
   obtain ⟨z0, z1, z2, z3, zk0, zk1, zk2, zk3⟩ := HN2.out.cells
   go_simp
   have HP1 : Hid (Ls (putA w3 gn An.zero) w.heap.size) := kH (HL2.out.put HG.out.1 An.zero)
   refine hK.out _ _ (HP1.out) (fun hHeld => ?_)
   clear hK K2
   try simp only [nrm]
   refine rdL 19 rfl (fun K2 hK => ?_)
   go_simp
   refine hK.out _ _ (HP1.out) (fun hHeld => ?_)
   clear hK K2
   try simp only
   refine wpAnyL_ready (rs := [20]) (by kernel_rfl) (by simp) ?_
   refine AllReadyL.store (o := _) rfl (by decide) (by decide) (fun K2 hK => ?_) AllReadyL.nil
   go_simp
   refine hK.out _ _ ?_
   clear hK K2
   try simp only
   refine wpAnyL_done (by kernel_rfl) ?_ _
   exact HQ.out _ _ _ _ _ _ _ _ _ _ _ _ _ _ _ _ _ _ _ _ (putA w3 gn An.zero) ⟨rfl, rfl, below_putA HB2.out HG.out.2 An.zero⟩
  ·
   go_simp
   refine hK.out _ _ (hHeld.alloc _) (fun hHeld => ?_)
   clear hK K2
   try simp only [nrm]
   have HN1 := kH (BlkA.new0 wd)
   have HG : Hid (w.heap.size + 1 + 1 < wd.heap.size ∧ w.heap.size ≤ wd.heap.size) := kH ⟨HLD.out.lt, by have := HLD.out.lt; omega⟩
   have HB1 := kH (HB1.out.alloc HB1.out.size zN)
   have HZ : Hid (wd.heap.size < (wd.alloc zN).heap.size) := kH (by simp)
   generalize wd.alloc zN = we at *
   generalize wd.heap.size = gn at *
   refine rdL 12 rfl (fun K2 hK => ?_)
   go_simp
   refine (CP.out _).mono ?_
   rintro e w2 ⟨hb2, rfl⟩
   have HL2 := kH (hHeld.kept hb2)
   have HB2 := kH (HB1.out.trans (hb2.mono HB1.out.size))
   have HN2 := kH (HN1.out.below hb2)
   clear hb2 HN1
   refine hK.out _ _ (HL2.out) (fun hHeld => ?_)
   clear hK K2
   try simp only
   refine tkL 13 (hQ := fun c _ _ h => absurd h (HNP.out c _ _)) (v := ?_) rfl ?_ ?_
   rotate_left
   · (intro w hSw; go_simp; try with_reducible rfl)
   try simp only [nrm]
   refine tkL 14 (hQ := fun c _ _ h => absurd h (HNP.out c _ _)) (v := ?_) rfl ?_ ?_
   rotate_left
   · (intro w hSw; go_simp; try with_reducible rfl)
   try simp only [nrm]
   refine tkL 15 (hQ := fun c _ _ h => absurd h (HNP.out c _ _)) (v := ?_) rfl ?_ ?_
   rotate_left
   · (intro w hSw; go_simp; try with_reducible rfl)
   try simp only [nrm]
   refine tkL 16 (hQ := fun c _ _ h => absurd h (HNP.out c _ _)) (v := ?_) rfl ?_ ?_
   rotate_left
   · (intro w hSw; go_simp; try with_reducible rfl)
   try simp only [nrm]
   generalize hw3 : w2 = w3 at *
   clear hw3
   refine rdL 18 rfl (fun K2 hK => ?_)
   obtain ⟨z0, z1, z2, z3, zk0, zk1, zk2, zk3⟩ := HN2.out.cells
   go_simp
   have HP1 : Hid (Ls (putA w3 gn An.zero) w.heap.size) := kH (HL2.out.put HG.out.1 An.zero)
   refine hK.out _ _ (HP1.out) (fun hHeld => ?_)
   clear hK K2
   try simp only [nrm]
   refine rdL 19 rfl (fun K2 hK => ?_)
   go_simp
   refine hK.out _ _ (HP1.out) (fun hHeld => ?_)
   clear hK K2
   try simp only
   refine wpAnyL_ready (rs := [20]) (by kernel_rfl) (by simp) ?_
   refine AllReadyL.store (o := _) rfl (by decide) (by decide) (fun K2 hK => ?_) AllReadyL.nil
   go_simp
   refine hK.out _ _ ?_
   clear hK K2
   try simp only
   refine wpAnyL_done (by kernel_rfl) ?_ _
   exact HQ.out _ _ _ _ _ _ _ _ _ _ _ _ _ _ _ _ _ _ _ _ (putA w3 gn An.zero) ⟨rfl, rfl, below_putA HB2.out HG.out.2 An.zero⟩
 ·
  intro v35 v36 v37 v38 v39 v40 v41 v42 v43 v44 v45 v46 v47 v34 v48 v49 v50 v8 v9 v10 w4 ⟨h9, h10, hb4⟩
  try simp only [nrm]
  obtain ⟨rfl, rfl⟩ := H34.out
  subst h9 h10
  have HB4 := kH hb4
  clear hb4
  go_wp2_with fail
  refine (AW.out _ HB4.out).mono ?_
  rintro e w5 ⟨rfl, hb5⟩
  have HB5 := kH (HB4.out.trans (hb5.mono HB4.out.size))
  clear hb5 HB4
  go_wp2_with fail
  go_ret
  exact ⟨rfl, HB5.out⟩
end Go.Proofs.YtmbfdkiejneheaaGreatDoor
