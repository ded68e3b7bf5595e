/-
  THE ITERATOR pack.Things: the things that stand in any bytes, as its contract with a loop's body has them.
-/
import Derived.Test.YtjlkdglbnfifeaaGreatDoorSeq
import Derived.Test.YtjlkdglbnfifeaaGreatDoorSkip
import Derived.Sort.QuietTacIn
import Derived.RegionIn
import Derived.LoopIn
import Derived.LoopNIn
import Derived.OwnWalkIn
import Derived.TacticsInMore
import Derived.Shelf.Abstract
import Derived.Shelf.RegionOpen
namespace Go.Proofs.YtjlkdglbnfifeaaGreatDoor.Pk
open Go.RowKit Go.Shelf
attribute [local go_sem] Oper.semAt_some

/-- The state behind Skip. -/
def skS (s : ByteArray) (r : RS) : RS := skP s (2 * s.size + 2) false r
/-- The things that stand in s from i on, each with its place. -/
def thL (s : ByteArray) : Nat → Nat → Nat → List (Nat × ByteArray)
  | 0, _, _ => []
  | f + 1, i, j => if i < s.size ∧ (skS s (i, j, 0)).2.2 = 0 then (i, s.extract i (skS s (i, j, 0)).1) :: thL s f (skS s (i, j, 0)).1 (skS s (i, j, 0)).2.1 else []
def things (s : ByteArray) : List (Nat × ByteArray) := thL s (s.size + 1) 0 0
theorem thL_stop {s : ByteArray} {f i j : Nat} (h : ¬ (i < s.size ∧ (skS s (i, j, 0)).2.2 = 0)) : thL s f i j = [] := by
  cases f with
  | zero => rfl
  | succ f => rw [thL, if_neg h]
theorem thL_more {s : ByteArray} {f i j : Nat} (h1 : i < s.size) (h2 : (skS s (i, j, 0)).2.2 = 0) : thL s (f + 1) i j = (i, s.extract i (skS s (i, j, 0)).1) :: thL s f (skS s (i, j, 0)).1 (skS s (i, j, 0)).2.1 := by
  rw [thL, if_pos ⟨h1, h2⟩]
theorem skS_keeps {s : ByteArray} {i j : Nat} (hi : i < s.size) (hj : j ≤ 60) (h : (skS s (i, j, 0)).2.2 = 0) : i < (skS s (i, j, 0)).1 ∧ (skS s (i, j, 0)).1 ≤ s.size ∧ (skS s (i, j, 0)).2.1 ≤ 60 := by
  obtain ⟨h1, h2, h3, _⟩ := skP_keeps s (2 * s.size + 2) false (i, j, 0) (by show i ≤ s.size; omega) hj
  rcases skP_moves s (2 * s.size + 1) i j hi hj with h4 | h4
  · exact absurd h h4
  · exact ⟨h4, h1, h2⟩
/-- How much is left, read off the Reader's cell. -/
def leftM (s : ByteArray) (rb : Nat) (w : World) : Nat := match w.cell? ⟨rb, 1, none⟩ with | some (.int _ i) => s.size - i.toNat | _ => 0
theorem leftM_eq {s : ByteArray} {rb i j k : Nat} {w : World} (h : Rd w rb s i j k) : leftM s rb w = s.size - i := by unfold leftM; rw [h.a]; simp
theorem Same.below {C : Nat → Prop} {A B : World} {n : Nat} (hb : Below n A B) (h : ∀ k, C k → k < n) : Same C A B :=
  ⟨hb.os, hb.tape, hb.output, hb.size, fun k hk => hb.block k (h k hk)⟩
theorem Same.only {C : Nat → Prop} {A B : World} {b : Nat} (hb : Only b A B) (h : ∀ k, C k → k < A.heap.size) (hn : ¬ C b) : Same C A B :=
  ⟨hb.os, hb.tape, hb.output, hb.size, fun k hk => hb.block k (h k hk) (fun e => hn (e ▸ hk))⟩
theorem Came.only {C0 : Nat → Prop} {W A B : World} {b : Nat} (h : Came C0 W A) (hb : Only b A B) (hn : W.heap.size ≤ b) : Came C0 W B :=
  ⟨hb.os.trans h.os, hb.tape.trans h.tape, hb.output.trans h.output, Nat.le_trans h.size hb.size, fun k hk hc => (hb.block k (Nat.lt_of_lt_of_le hk h.size) (by omega)).trans (h.block k hk hc)⟩

theorem rd_came {C : Nat → Prop} {A B : World} {b i j k : Nat} {s : ByteArray} (h : Rd A b s i j k) (hc : Came C A B) (hn : ¬ C b) : Rd B b s i j k := by
  have e := hc.block b h.lt hn
  have ec (o : Nat) : B.cell? ⟨b, o, none⟩ = A.cell? ⟨b, o, none⟩ := World.cell?_of_block (w := A) (a := ⟨b, o, none⟩) e
  have ef (o : Nat) : B.frozen? ⟨b, o, none⟩ = A.frozen? ⟨b, o, none⟩ := World.frozen?_of_block (w := A) (a := ⟨b, o, none⟩) e
  exact ⟨(ec 0).trans h.s, (ec 1).trans h.a, (ec 2).trans h.o, (ec 3).trans h.e, (ef 1).trans h.f1, (ef 2).trans h.f2, (ef 3).trans h.f3⟩
theorem clone_post (s : ByteArray) (w : World) (hs : s.size ≤ 100000) :
    Calls Tryz.prog 33 #[.string s] w fun e w' => e = .returned (.string s) ∧ Below w.heap.size w w' := by
  go_enter Tryz.func33, Tryz.ntmps33
  go_wp2_with fail
  refine (Tryz.stringslite_Clone s _ (by omega)).mono ?_
  rintro e w1 ⟨rfl, hb⟩
  go_wp2_with fail
  go_ret
  exact ⟨rfl, hb⟩
set_option maxHeartbeats 4000000 in
theorem things_seq (s : ByteArray) (hs : s.size ≤ 100000) (bs n : Nat) (_hn : 1 ≤ n) (w : World) (hbs : w.cell? ⟨bs, 0, none⟩ = some (.string s)) :
    SeqC Fence.wide n Tryz.prog 30 #[.pointer (some ⟨bs, 0, none⟩)] (fun x : Nat × ByteArray => #[.int .i64 x.1, .string x.2]) (· = things s) (· <+: things s) (s.size + 1) w (· = bs) := by
  intro l J Jx C0 W hW hZ hC0 hJ hJx hY h0
  have hbw : bs < w.heap.size := World.block_lt_of_cell? _ _ hbs
  have hbsW : W.cell? ⟨bs, 0, none⟩ = some (.string s) := (hW.cell (p := ⟨bs, 0, none⟩) hbw).trans hbs
  have hbW : bs < W.heap.size := World.block_lt_of_cell? _ _ hbsW
  refine callsIn_of_wp Tryz.func30 rfl trivial ?_ rfl
  simp only [Tryz.ntmps30, List.size_toArray, List.length_cons, List.length_nil, Nat.reduceAdd, Nat.reduceSub, Array.replicate_succ, Array.replicate_zero, List.push_toArray, List.append_toArray, List.nil_append, List.cons_append]
  have t1 : Fence.wide.fn 31 := trivial
  have t2 : Fence.wide.fn 32 := trivial
  have t3 : Fence.wide.fn 33 := trivial
  have HJm := Lib.hid hJ
  have HYm := Lib.hid hY
  clear hJ hJx hY
  gi_wp2_with (gi_at_call 31; refine (callsIn_wide.2 (read_any _ _)).mono ?_; rintro e w1 ⟨rfl, rfl⟩)
  gi_loopw [4] (fun _ wr => ∃ (i j f : Nat) (pre : List (Nat × ByteArray)) (C : Nat → Prop), i ≤ s.size ∧ j ≤ 60 ∧ s.size - i < f ∧ pre.length ≤ i ∧ Hid (things s = pre ++ thL s f i j) ∧ Hid (Rd wr W.heap.size s i j 0) ∧ Hid (J pre C wr) ∧ Hid (Came C0 W wr) ∧ Hid (∀ k, C k → C0 k ∨ W.heap.size ≤ k) ∧ Hid (¬ C W.heap.size) ∧ Hid (∀ k, C k → k < wr.heap.size))
    (fun _ wr => leftM s W.heap.size wr)
  case atStart =>
    have hba : Below W.heap.size W (W.alloc (.cells #[.string s, .int .i64 0, .int .i64 0, .int .i64 0] 69)) := (Below.refl _ _).alloc (Nat.le_refl _) _
    exact ⟨0, 0, s.size + 1, [], C0, by omega, by omega, by omega, by simp, Lib.hid rfl, Lib.hid (Rd.new s W _), Lib.hid (HJm.out _ _ _ _ h0 (Same.below hba hC0)), Lib.hid (Came.of_below hba (Nat.le_refl _)), Lib.hid (fun k h => Or.inl h), Lib.hid (fun h => by have := hC0 _ h; omega), Lib.hid (fun k h => by have := hC0 k h; simp; omega)⟩
  case round =>
    obtain ⟨i, j, f, pre, C, hi, hj, hf, hpl, HT, HRd, HJ, HC, HF, HN, HCz⟩ := hrel
    have hbs1 : wr.cell? ⟨bs, 0, none⟩ = some (.string s) := by
      have e := HC.out.block bs hbW (hZ bs rfl)
      unfold World.cell?
      rw [e]
      exact hbsW
    have HLW := Lib.hid (leftM_eq HRd.out)
    have c1 := HRd.out.a
    have c3 := HRd.out.e
    by_cases hlt : i < s.size
    · have i1 : (i : Int) < (s.size : Int) := by omega
      gi_wp2
      gi_quiet_th (fail)
      have hrq := HRd.out.drewN (n := nq)
      have SK := Lib.hid (skip_all s hs (2 * s.size + 2) (2 * s.size + 2) (Nat.le_refl _) W.heap.size i j 0 _ hrq (by omega) hj (by unfold needS; rw [if_neg (by omega)]; omega))
      gi_wp2_with (gi_at_call 32; refine (callsIn_wide.2 SK.out).mono ?_; rintro e w8 ⟨rfl, hr8, ho8⟩)
      have hcw : Came C0 W w8 := Came.only (b := W.heap.size) (A := wr.drewN nq) ⟨HC.out.os, HC.out.tape, HC.out.output, HC.out.size, HC.out.block⟩ ho8 (Nat.le_refl _)
      have hsm8 : Same C wr w8 := (Same.mk (A := wr) (B := wr.drewN nq) rfl rfl rfl (Nat.le_refl _) (fun _ _ => rfl)).trans (Same.only ho8 HCz.out HN.out)
      have HC8 := Lib.hid hcw
      have HJ8 := Lib.hid (HJm.out _ _ _ _ HJ.out hsm8)
      have HCz8 : Hid (∀ k, C k → k < w8.heap.size) := Lib.hid (fun k h => Nat.lt_of_lt_of_le (HCz.out k h) ho8.size)
      have hbs8 : w8.cell? ⟨bs, 0, none⟩ = some (.string s) := by
        have e := HC8.out.block bs hbW (hZ bs rfl)
        unfold World.cell?
        rw [e]
        exact hbsW
      have hr : Rd w8 W.heap.size s (skS s (i, j, 0)).1 (skS s (i, j, 0)).2.1 (skS s (i, j, 0)).2.2 := hr8
      clear hcw hsm8 hr8 ho8 SK hrq c1 c3 hbs1 HJ HC HCz HRd
      by_cases hz : (skS s (i, j, 0)).2.2 = 0
      · have HKP := Lib.hid (skS_keeps hlt hj hz)
        obtain ⟨f', hf'⟩ : ∃ f', f = f' + 1 := ⟨f - 1, by omega⟩
        have HT2 : Hid (things s = pre ++ (i, s.extract i (skS s (i, j, 0)).1) :: thL s f' (skS s (i, j, 0)).1 (skS s (i, j, 0)).2.1) := Lib.hid (by rw [HT.out, hf', thL_more hlt hz])
        rw [hz] at hr
        have d1 := hr.a
        have d3 := hr.e
        have HR8 := Lib.hid hr
        have k1 : (i : Int) ≤ ((skS s (i, j, 0)).1 : Int) := by have := HKP.out.1; omega
        have k2 : ((skS s (i, j, 0)).1 : Int) ≤ (s.size : Int) := by have := HKP.out.2.1; omega
        have k3 : (0 : Int) ≤ (i : Int) := by omega
        have k4 : i ≤ (skS s (i, j, 0)).1 := by have := HKP.out.1; omega
        have k5 : (skS s (i, j, 0)).1 ≤ s.size := HKP.out.2.1
        have hx : (s.extract i (skS s (i, j, 0)).1).size ≤ 100000 := by simp; omega
        clear hz hr
        gi_wp2
        refine wpIn_region_any (by kernel_rfl) ?_
        change wpAnyIn _ _ _ _ _ _ _ _ _ (World.drew _)
        refine wpAnyIn_take (i := 0) (oi := _) (v := ?_) rfl rfl (by kernel_rfl) (by kernel_rfl) (by kernel_rfl) (fun _ _ _ h => h) ⟨Or.inl ⟨by rfl, ?_⟩, fun _ => rfl⟩ ?_
        rotate_left
        · (intro w; go_simp; try with_reducible rfl)
        try simp only [List.getElem_toArray, List.getElem_cons_zero, Act.put, List.setIfInBounds_toArray, List.set_cons_zero, List.set_cons_succ]
        refine wpAnyIn_take (i := 1) (oi := _) (v := ?_) rfl rfl (by kernel_rfl) (by kernel_rfl) (by kernel_rfl) (fun _ _ _ h => h) ⟨Or.inl ⟨by rfl, ?_⟩, fun _ => rfl⟩ ?_
        rotate_left
        · (intro w; go_simp; try with_reducible rfl)
        try simp only [List.getElem_toArray, List.getElem_cons_zero, List.getElem_cons_succ, Act.put, List.setIfInBounds_toArray, List.set_cons_zero, List.set_cons_succ]
        refine wpAnyIn_take (i := 2) (oi := _) (v := ?_) rfl rfl (by kernel_rfl) (by kernel_rfl) (by kernel_rfl) (fun _ _ _ h => h) ⟨Or.inl ⟨by rfl, ?_⟩, fun _ => rfl⟩ ?_
        rotate_left
        · (intro w; go_simp; try with_reducible rfl)
        try simp only [List.getElem_toArray, List.getElem_cons_zero, List.getElem_cons_succ, Act.put, List.setIfInBounds_toArray, List.set_cons_zero, List.set_cons_succ]
        refine wpAnyIn_ready (rs := [3]) (by kernel_rfl) (by simp) ?_
        refine AllReadyIn.cons (o := _) rfl (fun K hK => ?_) ?_
        · go_simp
          refine hK _ _ ?_
          clear hK K
          try simp only [List.getElem_toArray, List.getElem_cons_zero, List.getElem_cons_succ, Act.put, List.setIfInBounds_toArray, List.set_cons_zero, List.set_cons_succ]
          refine wpAnyIn_take (i := 4) (oi := _) (v := ?_) rfl rfl (by kernel_rfl) (by kernel_rfl) (by kernel_rfl) (fun _ _ _ h => h) ⟨Or.inl ⟨by rfl, ?_⟩, fun _ => rfl⟩ ?_
          rotate_left
          · (intro w; go_simp; try with_reducible rfl)
          try simp only [List.getElem_toArray, List.getElem_cons_zero, List.getElem_cons_succ, Act.put, List.setIfInBounds_toArray, List.set_cons_zero, List.set_cons_succ]
          refine wpAnyIn_take (i := 5) (oi := _) (v := ?_) rfl rfl (by kernel_rfl) (by kernel_rfl) (by kernel_rfl) (fun _ _ _ h => h) ⟨Or.inl ⟨by rfl, ?_⟩, fun _ => rfl⟩ ?_
          rotate_left
          · (intro w; go_simp; try with_reducible rfl)
          try simp only [List.getElem_toArray, List.getElem_cons_zero, List.getElem_cons_succ, Act.put, List.setIfInBounds_toArray, List.set_cons_zero, List.set_cons_succ]
          refine wpAnyIn_take (i := 6) (oi := _) (v := ?_) rfl rfl (by kernel_rfl) (by kernel_rfl) (by kernel_rfl) (fun _ _ _ h => h) ⟨Or.inl ⟨by rfl, ?_⟩, fun _ => rfl⟩ ?_
          rotate_left
          · (intro w; go_simp; try with_reducible rfl)
          try simp only [List.getElem_toArray, List.getElem_cons_zero, List.getElem_cons_succ, Act.put, List.setIfInBounds_toArray, List.set_cons_zero, List.set_cons_succ]
          refine wpAnyIn_take (i := 7) (oi := _) (v := ?_) rfl rfl (by kernel_rfl) (by kernel_rfl) (by kernel_rfl) (fun _ _ _ h => h) ⟨Or.inl ⟨by rfl, ?_⟩, fun _ => rfl⟩ ?_
          rotate_left
          · (intro w; go_simp; try with_reducible rfl)
          try simp only [List.getElem_toArray, List.getElem_cons_zero, List.getElem_cons_succ, Act.put, List.setIfInBounds_toArray, List.set_cons_zero, List.set_cons_succ]
          refine wpAnyIn_take (i := 9) (oi := _) (v := ?_) rfl rfl (by kernel_rfl) (by kernel_rfl) (by kernel_rfl) (fun _ _ _ h => h) ⟨Or.inl ⟨by rfl, ?_⟩, fun _ => rfl⟩ ?_
          rotate_left
          · (intro w; go_simp; try with_reducible rfl)
          try simp only [List.getElem_toArray, List.getElem_cons_zero, List.getElem_cons_succ, Act.put, List.setIfInBounds_toArray, List.set_cons_zero, List.set_cons_succ]
          refine wpAnyIn_take (i := 10) (oi := _) (v := ?_) rfl rfl (by kernel_rfl) (by kernel_rfl) (by kernel_rfl) (fun _ _ _ h => h) ⟨Or.inl ⟨by rfl, ?_⟩, fun _ => rfl⟩ ?_
          rotate_left
          · (intro w; go_simp; try with_reducible rfl)
          try simp only [List.getElem_toArray, List.getElem_cons_zero, List.getElem_cons_succ, Act.put, List.setIfInBounds_toArray, List.set_cons_zero, List.set_cons_succ]
          refine wpAnyIn_take (i := 11) (oi := _) (v := ?_) rfl rfl (by kernel_rfl) (by kernel_rfl) (by kernel_rfl) (fun _ _ _ h => h) ⟨Or.inl ⟨by rfl, ?_⟩, fun _ => rfl⟩ ?_
          rotate_left
          · (intro w; go_simp; try with_reducible rfl)
          try simp only [List.getElem_toArray, List.getElem_cons_zero, List.getElem_cons_succ, Act.put, List.setIfInBounds_toArray, List.set_cons_zero, List.set_cons_succ]
          refine wpAnyIn_take (i := 12) (oi := _) (v := ?_) rfl rfl (by kernel_rfl) (by kernel_rfl) (by kernel_rfl) (fun _ _ _ h => h) ⟨Or.inl ⟨by rfl, ?_⟩, fun _ => rfl⟩ ?_
          rotate_left
          · (intro w; go_simp; try with_reducible rfl)
          try simp only [List.getElem_toArray, List.getElem_cons_zero, List.getElem_cons_succ, Act.put, List.setIfInBounds_toArray, List.set_cons_zero, List.set_cons_succ]
          refine wpAnyIn_ready (rs := [8, 13]) (by kernel_rfl) (by simp) ?_
          refine AllReadyIn.cons (o := _) rfl (fun K hK => ?_) ?_
          · go_simp
            refine hK _ _ ?_
            clear hK K
            try simp only [List.getElem_toArray, List.getElem_cons_zero, List.getElem_cons_succ, Act.put, List.setIfInBounds_toArray, List.set_cons_zero, List.set_cons_succ]
            refine wpAnyIn_ready (rs := [13]) (by kernel_rfl) (by simp) ?_
            refine AllReadyIn.cons (o := _) rfl (fun K hK => ?_) ?_
            · go_simp
              refine hK _ _ ?_
              clear hK K
              try simp only [List.getElem_toArray, List.getElem_cons_zero, List.getElem_cons_succ, Act.put, List.setIfInBounds_toArray, List.set_cons_zero, List.set_cons_succ]
              refine wpAnyIn_take (i := 14) (oi := _) (v := ?_) rfl rfl (by kernel_rfl) (by kernel_rfl) (by kernel_rfl) (fun _ _ _ h => h) ⟨Or.inl ⟨by rfl, ?_⟩, fun _ => rfl⟩ ?_
              rotate_left
              · (intro w; go_simp; try with_reducible rfl)
              try simp only [List.getElem_toArray, List.getElem_cons_zero, List.getElem_cons_succ, Act.put, List.setIfInBounds_toArray, List.set_cons_zero, List.set_cons_succ]
              refine wpAnyIn_ready (rs := [15]) (by kernel_rfl) (by simp) ?_
              refine AllReadyIn.cons (o := _) rfl (fun K hK => ?_) ?_
              · go_simp
                refine (callsIn_wide.2 (clone_post (s.extract i (skS s (i, j, 0)).1) _ hx)).mono ?_
                rintro e w9 ⟨rfl, hb9⟩
                refine hK _ _ ?_
                clear hK K
                try simp only [List.getElem_toArray, List.getElem_cons_zero, List.getElem_cons_succ, Act.put, List.setIfInBounds_toArray, List.set_cons_zero, List.set_cons_succ]
                refine wpAnyIn_ready (rs := [16]) (by kernel_rfl) (by simp) ?_
                refine AllReadyIn.cons (o := _) rfl (fun K hK => ?_) AllReadyIn.nil
                have hb9' : Below w8.heap.size w8 w9 := ⟨hb9.os, hb9.tape, hb9.output, hb9.size, hb9.block⟩
                have HJ9 := HJm.out _ _ _ _ HJ8.out (Same.below hb9' HCz8.out)
                have HC9 : Hid (Came C0 W w9) := Lib.hid (HC8.out.trans (Came.of_below hb9' (Nat.le_refl _)) (fun _ h => Or.inl h))
                obtain ⟨fn, tmps, assign, body, hy, hR⟩ := HYm.out pre (i, s.extract i (skS s (i, j, 0)).1) C w9 HJ9 HC9.out HF.out (by omega)
                dsimp only at hy
                go_simp
                refine hR.mono ?_
                rintro e W3 ⟨C', hf', hbd', hc', (⟨rfl, hJ3⟩ | ⟨rfl, hJ3⟩)⟩
                · refine hK _ _ ?_
                  clear hK K
                  try simp only [List.getElem_toArray, List.getElem_cons_zero, List.getElem_cons_succ, Act.put, List.setIfInBounds_toArray, List.set_cons_zero, List.set_cons_succ]
                  refine wpAnyIn_take (i := 17) (oi := _) (v := ?_) rfl rfl (by kernel_rfl) (by kernel_rfl) (by kernel_rfl) (fun _ _ _ h => h) ⟨Or.inl ⟨by rfl, ?_⟩, fun _ => rfl⟩ ?_
                  rotate_left
                  · (intro w; go_simp; try with_reducible rfl)
                  try simp only [List.getElem_toArray, List.getElem_cons_zero, List.getElem_cons_succ, Act.put, List.setIfInBounds_toArray, List.set_cons_zero, List.set_cons_succ]
                  refine wpAnyIn_take (i := 18) (oi := _) (v := ?_) rfl rfl (by kernel_rfl) (by kernel_rfl) (by kernel_rfl) (fun _ _ _ h => h) ⟨Or.inl ⟨by rfl, ?_⟩, fun _ => rfl⟩ ?_
                  rotate_left
                  · (intro w; go_simp; try with_reducible rfl)
                  try simp only [List.getElem_toArray, List.getElem_cons_zero, List.getElem_cons_succ, Act.put, List.setIfInBounds_toArray, List.set_cons_zero, List.set_cons_succ]
                  refine wpAnyIn_done (by kernel_rfl) ?_ _
                  have hr9 : Rd w9 W.heap.size s (skS s (i, j, 0)).1 (skS s (i, j, 0)).2.1 0 := HR8.out.below hb9' HR8.out.lt
                  have hrb9 : W.heap.size < w9.heap.size := hr9.lt
                  have hr3 : Rd W3 W.heap.size s (skS s (i, j, 0)).1 (skS s (i, j, 0)).2.1 0 := rd_came hr9 hc' HN.out
                  have HL := Lib.hid (leftM_eq hr3)
                  have HKK := HKP.out
                  have HREL : Hid (∃ (i' j' f : Nat) (pre' : List (Nat × ByteArray)) (C : Nat → Prop), i' ≤ s.size ∧ j' ≤ 60 ∧ s.size - i' < f ∧ pre'.length ≤ i' ∧ Hid (things s = pre' ++ thL s f i' j') ∧ Hid (Rd W3 W.heap.size s i' j' 0) ∧ Hid (J pre' C W3) ∧ Hid (Came C0 W W3) ∧ Hid (∀ k, C k → C0 k ∨ W.heap.size ≤ k) ∧ Hid (¬ C W.heap.size) ∧ Hid (∀ k, C k → k < W3.heap.size)) := Lib.hid
                    ⟨_, _, f', _, C', HKK.2.1, HKK.2.2, by omega, by simp; omega, Lib.hid (by rw [HT2.out, List.append_assoc]; rfl), Lib.hid hr3, Lib.hid hJ3, Lib.hid (HC9.out.trans hc' (fun k h => HF.out k h)), Lib.hid (fun k h => (hf' k h).elim (HF.out k) (fun h2 => Or.inr (by have := HC9.out.size; omega))), Lib.hid (fun h => (hf' _ h).elim HN.out (fun h2 => by omega)), Lib.hid hbd'⟩
                  have HLM : Hid (leftM s W.heap.size W3 < leftM s W.heap.size wr) := Lib.hid (by rw [HL.out, HLW.out]; omega)
                  gi_wp2
                  go_roundw
                  case rel => exact HREL.out
                  case measure => exact HLM.out
                · refine hK _ _ ?_
                  clear hK K
                  try simp only [List.getElem_toArray, List.getElem_cons_zero, List.getElem_cons_succ, Act.put, List.setIfInBounds_toArray, List.set_cons_zero, List.set_cons_succ]
                  refine wpAnyIn_take (i := 17) (oi := _) (v := ?_) rfl rfl (by kernel_rfl) (by kernel_rfl) (by kernel_rfl) (fun _ _ _ h => h) ⟨Or.inl ⟨by rfl, ?_⟩, fun _ => rfl⟩ ?_
                  rotate_left
                  · (intro w; go_simp; try with_reducible rfl)
                  try simp only [List.getElem_toArray, List.getElem_cons_zero, List.getElem_cons_succ, Act.put, List.setIfInBounds_toArray, List.set_cons_zero, List.set_cons_succ]
                  refine wpAnyIn_take (i := 18) (oi := _) (v := ?_) rfl rfl (by kernel_rfl) (by kernel_rfl) (by kernel_rfl) (fun _ _ _ h => h) ⟨Or.inl ⟨by rfl, ?_⟩, fun _ => rfl⟩ ?_
                  rotate_left
                  · (intro w; go_simp; try with_reducible rfl)
                  try simp only [List.getElem_toArray, List.getElem_cons_zero, List.getElem_cons_succ, Act.put, List.setIfInBounds_toArray, List.set_cons_zero, List.set_cons_succ]
                  refine wpAnyIn_done (by kernel_rfl) ?_ _
                  gi_wp2
                  refine bodyPost_ret (results_none rfl _ _ _) rfl ?_
                  exact ⟨⟨_, rfl⟩, HC9.out.trans hc' (fun k h => HF.out k h), .inr ⟨_, C', ⟨_, by rw [HT2.out, List.append_assoc]; rfl⟩, hJ3⟩⟩
              exact AllReadyIn.nil
            exact AllReadyIn.nil
          refine AllReadyIn.cons (o := _) rfl (fun K hK => ?_) ?_
          · go_simp
            refine hK _ _ ?_
            clear hK K
            try simp only [List.getElem_toArray, List.getElem_cons_zero, List.getElem_cons_succ, Act.put, List.setIfInBounds_toArray, List.set_cons_zero, List.set_cons_succ]
            refine wpAnyIn_ready (rs := [8]) (by kernel_rfl) (by simp) ?_
            refine AllReadyIn.cons (o := _) rfl (fun K hK => ?_) ?_
            · go_simp
              refine hK _ _ ?_
              clear hK K
              try simp only [List.getElem_toArray, List.getElem_cons_zero, List.getElem_cons_succ, Act.put, List.setIfInBounds_toArray, List.set_cons_zero, List.set_cons_succ]
              refine wpAnyIn_take (i := 14) (oi := _) (v := ?_) rfl rfl (by kernel_rfl) (by kernel_rfl) (by kernel_rfl) (fun _ _ _ h => h) ⟨Or.inl ⟨by rfl, ?_⟩, fun _ => rfl⟩ ?_
              rotate_left
              · (intro w; go_simp; try with_reducible rfl)
              try simp only [List.getElem_toArray, List.getElem_cons_zero, List.getElem_cons_succ, Act.put, List.setIfInBounds_toArray, List.set_cons_zero, List.set_cons_succ]
              refine wpAnyIn_ready (rs := [15]) (by kernel_rfl) (by simp) ?_
              refine AllReadyIn.cons (o := _) rfl (fun K hK => ?_) ?_
              · go_simp
                refine (callsIn_wide.2 (clone_post (s.extract i (skS s (i, j, 0)).1) _ hx)).mono ?_
                rintro e w9 ⟨rfl, hb9⟩
                refine hK _ _ ?_
                clear hK K
                try simp only [List.getElem_toArray, List.getElem_cons_zero, List.getElem_cons_succ, Act.put, List.setIfInBounds_toArray, List.set_cons_zero, List.set_cons_succ]
                refine wpAnyIn_ready (rs := [16]) (by kernel_rfl) (by simp) ?_
                refine AllReadyIn.cons (o := _) rfl (fun K hK => ?_) AllReadyIn.nil
                have hb9' : Below w8.heap.size w8 w9 := ⟨hb9.os, hb9.tape, hb9.output, hb9.size, hb9.block⟩
                have HJ9 := HJm.out _ _ _ _ HJ8.out (Same.below hb9' HCz8.out)
                have HC9 : Hid (Came C0 W w9) := Lib.hid (HC8.out.trans (Came.of_below hb9' (Nat.le_refl _)) (fun _ h => Or.inl h))
                obtain ⟨fn, tmps, assign, body, hy, hR⟩ := HYm.out pre (i, s.extract i (skS s (i, j, 0)).1) C w9 HJ9 HC9.out HF.out (by omega)
                dsimp only at hy
                go_simp
                refine hR.mono ?_
                rintro e W3 ⟨C', hf', hbd', hc', (⟨rfl, hJ3⟩ | ⟨rfl, hJ3⟩)⟩
                · refine hK _ _ ?_
                  clear hK K
                  try simp only [List.getElem_toArray, List.getElem_cons_zero, List.getElem_cons_succ, Act.put, List.setIfInBounds_toArray, List.set_cons_zero, List.set_cons_succ]
                  refine wpAnyIn_take (i := 17) (oi := _) (v := ?_) rfl rfl (by kernel_rfl) (by kernel_rfl) (by kernel_rfl) (fun _ _ _ h => h) ⟨Or.inl ⟨by rfl, ?_⟩, fun _ => rfl⟩ ?_
                  rotate_left
                  · (intro w; go_simp; try with_reducible rfl)
                  try simp only [List.getElem_toArray, List.getElem_cons_zero, List.getElem_cons_succ, Act.put, List.setIfInBounds_toArray, List.set_cons_zero, List.set_cons_succ]
                  refine wpAnyIn_take (i := 18) (oi := _) (v := ?_) rfl rfl (by kernel_rfl) (by kernel_rfl) (by kernel_rfl) (fun _ _ _ h => h) ⟨Or.inl ⟨by rfl, ?_⟩, fun _ => rfl⟩ ?_
                  rotate_left
                  · (intro w; go_simp; try with_reducible rfl)
                  try simp only [List.getElem_toArray, List.getElem_cons_zero, List.getElem_cons_succ, Act.put, List.setIfInBounds_toArray, List.set_cons_zero, List.set_cons_succ]
                  refine wpAnyIn_done (by kernel_rfl) ?_ _
                  have hr9 : Rd w9 W.heap.size s (skS s (i, j, 0)).1 (skS s (i, j, 0)).2.1 0 := HR8.out.below hb9' HR8.out.lt
                  have hrb9 : W.heap.size < w9.heap.size := hr9.lt
                  have hr3 : Rd W3 W.heap.size s (skS s (i, j, 0)).1 (skS s (i, j, 0)).2.1 0 := rd_came hr9 hc' HN.out
                  have HL := Lib.hid (leftM_eq hr3)
                  have HKK := HKP.out
                  have HREL : Hid (∃ (i' j' f : Nat) (pre' : List (Nat × ByteArray)) (C : Nat → Prop), i' ≤ s.size ∧ j' ≤ 60 ∧ s.size - i' < f ∧ pre'.length ≤ i' ∧ Hid (things s = pre' ++ thL s f i' j') ∧ Hid (Rd W3 W.heap.size s i' j' 0) ∧ Hid (J pre' C W3) ∧ Hid (Came C0 W W3) ∧ Hid (∀ k, C k → C0 k ∨ W.heap.size ≤ k) ∧ Hid (¬ C W.heap.size) ∧ Hid (∀ k, C k → k < W3.heap.size)) := Lib.hid
                    ⟨_, _, f', _, C', HKK.2.1, HKK.2.2, by omega, by simp; omega, Lib.hid (by rw [HT2.out, List.append_assoc]; rfl), Lib.hid hr3, Lib.hid hJ3, Lib.hid (HC9.out.trans hc' (fun k h => HF.out k h)), Lib.hid (fun k h => (hf' k h).elim (HF.out k) (fun h2 => Or.inr (by have := HC9.out.size; omega))), Lib.hid (fun h => (hf' _ h).elim HN.out (fun h2 => by omega)), Lib.hid hbd'⟩
                  have HLM : Hid (leftM s W.heap.size W3 < leftM s W.heap.size wr) := Lib.hid (by rw [HL.out, HLW.out]; omega)
                  gi_wp2
                  go_roundw
                  case rel => exact HREL.out
                  case measure => exact HLM.out
                · refine hK _ _ ?_
                  clear hK K
                  try simp only [List.getElem_toArray, List.getElem_cons_zero, List.getElem_cons_succ, Act.put, List.setIfInBounds_toArray, List.set_cons_zero, List.set_cons_succ]
                  refine wpAnyIn_take (i := 17) (oi := _) (v := ?_) rfl rfl (by kernel_rfl) (by kernel_rfl) (by kernel_rfl) (fun _ _ _ h => h) ⟨Or.inl ⟨by rfl, ?_⟩, fun _ => rfl⟩ ?_
                  rotate_left
                  · (intro w; go_simp; try with_reducible rfl)
                  try simp only [List.getElem_toArray, List.getElem_cons_zero, List.getElem_cons_succ, Act.put, List.setIfInBounds_toArray, List.set_cons_zero, List.set_cons_succ]
                  refine wpAnyIn_take (i := 18) (oi := _) (v := ?_) rfl rfl (by kernel_rfl) (by kernel_rfl) (by kernel_rfl) (fun _ _ _ h => h) ⟨Or.inl ⟨by rfl, ?_⟩, fun _ => rfl⟩ ?_
                  rotate_left
                  · (intro w; go_simp; try with_reducible rfl)
                  try simp only [List.getElem_toArray, List.getElem_cons_zero, List.getElem_cons_succ, Act.put, List.setIfInBounds_toArray, List.set_cons_zero, List.set_cons_succ]
                  refine wpAnyIn_done (by kernel_rfl) ?_ _
                  gi_wp2
                  refine bodyPost_ret (results_none rfl _ _ _) rfl ?_
                  exact ⟨⟨_, rfl⟩, HC9.out.trans hc' (fun k h => HF.out k h), .inr ⟨_, C', ⟨_, by rw [HT2.out, List.append_assoc]; rfl⟩, hJ3⟩⟩
              exact AllReadyIn.nil
            exact AllReadyIn.nil
          exact AllReadyIn.nil
        exact AllReadyIn.nil
      · have HEND : Hid (things s = pre) := Lib.hid (by rw [HT.out, thL_stop (fun h => hz h.2), List.append_nil])
        have d3 := hr.e
        generalize (skS s (i, j, 0)).2.2 = kk at *
        have k1 : ((kk : Int) != 0) = true := by simp; omega
        have k2 : ((kk : Int) == 0) = false := by simp; omega
        have k3 : decide ((kk : Int) = 0) = false := by simp; omega
        clear hz hr HT
        gi_wp2
        refine wpIn_region_any (by kernel_rfl) ?_
        change wpAnyIn _ _ _ _ _ _ _ _ _ (World.drew _)
        refine wpAnyIn_take (i := 0) (oi := _) (v := ?_) rfl rfl (by kernel_rfl) (by kernel_rfl) (by kernel_rfl) (fun _ _ _ h => h) ⟨Or.inl ⟨by rfl, ?_⟩, fun _ => rfl⟩ ?_
        rotate_left
        · (intro w; go_simp; try with_reducible rfl)
        try simp only [List.getElem_toArray, List.getElem_cons_zero, Act.put, List.setIfInBounds_toArray, List.set_cons_zero, List.set_cons_succ]
        refine wpAnyIn_take (i := 1) (oi := _) (v := ?_) rfl rfl (by kernel_rfl) (by kernel_rfl) (by kernel_rfl) (fun _ _ _ h => h) ⟨Or.inl ⟨by rfl, ?_⟩, fun _ => rfl⟩ ?_
        rotate_left
        · (intro w; go_simp; try with_reducible rfl)
        try simp only [List.getElem_toArray, List.getElem_cons_zero, List.getElem_cons_succ, Act.put, List.setIfInBounds_toArray, List.set_cons_zero, List.set_cons_succ]
        refine wpAnyIn_take (i := 2) (oi := _) (v := ?_) rfl rfl (by kernel_rfl) (by kernel_rfl) (by kernel_rfl) (fun _ _ _ h => h) ⟨Or.inl ⟨by rfl, ?_⟩, fun _ => rfl⟩ ?_
        rotate_left
        · (intro w; go_simp; try with_reducible rfl)
        try simp only [List.getElem_toArray, List.getElem_cons_zero, List.getElem_cons_succ, Act.put, List.setIfInBounds_toArray, List.set_cons_zero, List.set_cons_succ]
        refine wpAnyIn_ready (rs := [3]) (by kernel_rfl) (by simp) ?_
        refine AllReadyIn.cons (o := _) rfl (fun K hK => ?_) ?_
        · go_simp
          refine hK _ _ ?_
          clear hK K
          try simp only [List.getElem_toArray, List.getElem_cons_zero, List.getElem_cons_succ, Act.put, List.setIfInBounds_toArray, List.set_cons_zero, List.set_cons_succ]
          refine wpAnyIn_take (i := 4) (oi := _) (v := ?_) rfl rfl (by kernel_rfl) (by kernel_rfl) (by kernel_rfl) (fun _ _ _ h => h) ⟨Or.inl ⟨by rfl, ?_⟩, fun _ => rfl⟩ ?_
          rotate_left
          · (intro w; go_simp; try with_reducible rfl)
          try simp only [List.getElem_toArray, List.getElem_cons_zero, List.getElem_cons_succ, Act.put, List.setIfInBounds_toArray, List.set_cons_zero, List.set_cons_succ]
          refine wpAnyIn_take (i := 5) (oi := _) (v := ?_) rfl rfl (by kernel_rfl) (by kernel_rfl) (by kernel_rfl) (fun _ _ _ h => h) ⟨Or.inl ⟨by rfl, ?_⟩, fun _ => rfl⟩ ?_
          rotate_left
          · (intro w; go_simp; try with_reducible rfl)
          try simp only [List.getElem_toArray, List.getElem_cons_zero, List.getElem_cons_succ, Act.put, List.setIfInBounds_toArray, List.set_cons_zero, List.set_cons_succ]
          refine wpAnyIn_take (i := 6) (oi := _) (v := undef) rfl rfl (by kernel_rfl) (by kernel_rfl) (by kernel_rfl) (fun _ _ _ h => h) ⟨Or.inr ⟨by rfl, rfl⟩, fun _ => rfl⟩ ?_
          try simp only [List.getElem_toArray, List.getElem_cons_zero, List.getElem_cons_succ, Act.put, List.setIfInBounds_toArray, List.set_cons_zero, List.set_cons_succ]
          refine wpAnyIn_take (i := 7) (oi := _) (v := undef) rfl rfl (by kernel_rfl) (by kernel_rfl) (by kernel_rfl) (fun _ _ _ h => h) ⟨Or.inr ⟨by rfl, rfl⟩, fun _ => rfl⟩ ?_
          try simp only [List.getElem_toArray, List.getElem_cons_zero, List.getElem_cons_succ, Act.put, List.setIfInBounds_toArray, List.set_cons_zero, List.set_cons_succ]
          refine wpAnyIn_take (i := 8) (oi := _) (v := undef) rfl rfl (by kernel_rfl) (by kernel_rfl) (by kernel_rfl) (fun _ _ _ h => h) ⟨Or.inr ⟨by rfl, rfl⟩, fun _ => rfl⟩ ?_
          try simp only [List.getElem_toArray, List.getElem_cons_zero, List.getElem_cons_succ, Act.put, List.setIfInBounds_toArray, List.set_cons_zero, List.set_cons_succ]
          refine wpAnyIn_take (i := 9) (oi := _) (v := undef) rfl rfl (by kernel_rfl) (by kernel_rfl) (by kernel_rfl) (fun _ _ _ h => h) ⟨Or.inr ⟨by rfl, rfl⟩, fun _ => rfl⟩ ?_
          try simp only [List.getElem_toArray, List.getElem_cons_zero, List.getElem_cons_succ, Act.put, List.setIfInBounds_toArray, List.set_cons_zero, List.set_cons_succ]
          refine wpAnyIn_take (i := 10) (oi := _) (v := undef) rfl rfl (by kernel_rfl) (by kernel_rfl) (by kernel_rfl) (fun _ _ _ h => h) ⟨Or.inr ⟨by rfl, rfl⟩, fun _ => rfl⟩ ?_
          try simp only [List.getElem_toArray, List.getElem_cons_zero, List.getElem_cons_succ, Act.put, List.setIfInBounds_toArray, List.set_cons_zero, List.set_cons_succ]
          refine wpAnyIn_take (i := 11) (oi := _) (v := undef) rfl rfl (by kernel_rfl) (by kernel_rfl) (by kernel_rfl) (fun _ _ _ h => h) ⟨Or.inr ⟨by rfl, rfl⟩, fun _ => rfl⟩ ?_
          try simp only [List.getElem_toArray, List.getElem_cons_zero, List.getElem_cons_succ, Act.put, List.setIfInBounds_toArray, List.set_cons_zero, List.set_cons_succ]
          refine wpAnyIn_take (i := 12) (oi := _) (v := undef) rfl rfl (by kernel_rfl) (by kernel_rfl) (by kernel_rfl) (fun _ _ _ h => h) ⟨Or.inr ⟨by rfl, rfl⟩, fun _ => rfl⟩ ?_
          try simp only [List.getElem_toArray, List.getElem_cons_zero, List.getElem_cons_succ, Act.put, List.setIfInBounds_toArray, List.set_cons_zero, List.set_cons_succ]
          refine wpAnyIn_take (i := 13) (oi := _) (v := undef) rfl rfl (by kernel_rfl) (by kernel_rfl) (by kernel_rfl) (fun _ _ _ h => h) ⟨Or.inr ⟨by rfl, rfl⟩, fun _ => rfl⟩ ?_
          try simp only [List.getElem_toArray, List.getElem_cons_zero, List.getElem_cons_succ, Act.put, List.setIfInBounds_toArray, List.set_cons_zero, List.set_cons_succ]
          refine wpAnyIn_take (i := 14) (oi := _) (v := undef) rfl rfl (by kernel_rfl) (by kernel_rfl) (by kernel_rfl) (fun _ _ _ h => h) ⟨Or.inr ⟨by rfl, rfl⟩, fun _ => rfl⟩ ?_
          try simp only [List.getElem_toArray, List.getElem_cons_zero, List.getElem_cons_succ, Act.put, List.setIfInBounds_toArray, List.set_cons_zero, List.set_cons_succ]
          refine wpAnyIn_ready (rs := [15]) (by kernel_rfl) (by simp) ?_
          refine AllReadyIn.cons (o := _) rfl (fun K hK => ?_) ?_
          · go_simp
            refine hK _ _ ?_
            clear hK K
            try simp only [List.getElem_toArray, List.getElem_cons_zero, List.getElem_cons_succ, Act.put, List.setIfInBounds_toArray, List.set_cons_zero, List.set_cons_succ]
            refine wpAnyIn_ready (rs := [16]) (by kernel_rfl) (by simp) ?_
            refine AllReadyIn.cons (o := _) rfl (fun K hK => ?_) ?_
            · go_simp
              refine ⟨fun _ _ => trivial, ?_⟩
              refine hK _ _ ?_
              clear hK K
              try simp only [List.getElem_toArray, List.getElem_cons_zero, List.getElem_cons_succ, Act.put, List.setIfInBounds_toArray, List.set_cons_zero, List.set_cons_succ]
              refine wpAnyIn_take (i := 17) (oi := _) (v := undef) rfl rfl (by kernel_rfl) (by kernel_rfl) (by kernel_rfl) (fun _ _ _ h => h) ⟨Or.inr ⟨by rfl, rfl⟩, fun _ => rfl⟩ ?_
              try simp only [List.getElem_toArray, List.getElem_cons_zero, List.getElem_cons_succ, Act.put, List.setIfInBounds_toArray, List.set_cons_zero, List.set_cons_succ]
              refine wpAnyIn_take (i := 18) (oi := _) (v := ?_) rfl rfl (by kernel_rfl) (by kernel_rfl) (by kernel_rfl) (fun _ _ _ h => h) ⟨Or.inl ⟨by rfl, ?_⟩, fun _ => rfl⟩ ?_
              rotate_left
              · (intro w; go_simp; try with_reducible rfl)
              try simp only [List.getElem_toArray, List.getElem_cons_zero, List.getElem_cons_succ, Act.put, List.setIfInBounds_toArray, List.set_cons_zero, List.set_cons_succ]
              refine wpAnyIn_done (by kernel_rfl) ?_ _
              gi_wp2
              refine bodyPost_ret (results_none rfl _ _ _) rfl ?_
              exact ⟨⟨_, rfl⟩, ⟨HC8.out.os, HC8.out.tape, HC8.out.output, HC8.out.size, HC8.out.block⟩, .inl ⟨pre, C, HEND.out.symm, HJm.out _ _ _ _ HJ8.out ⟨rfl, rfl, rfl, Nat.le_refl _, fun _ _ => rfl⟩⟩⟩
            exact AllReadyIn.nil
          exact AllReadyIn.nil
        exact AllReadyIn.nil
    · have HEND : Hid (things s = pre) := Lib.hid (by rw [HT.out, thL_stop (fun h => hlt h.1), List.append_nil])
      gi_wp2
      gi_quiet_th (fail)
      gi_wp2
      go_end0
      exact ⟨⟨_, rfl⟩, ⟨HC.out.os, HC.out.tape, HC.out.output, HC.out.size, HC.out.block⟩, .inl ⟨pre, C, HEND.out.symm, HJm.out _ _ _ _ HJ.out ⟨rfl, rfl, rfl, Nat.le_refl _, fun _ _ => rfl⟩⟩⟩
end Go.Proofs.YtjlkdglbnfifeaaGreatDoor.Pk
