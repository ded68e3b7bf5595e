/-
  CONTRACT of the document's own `both` (scriberef10): two rising lists of places as one.
-/
import Derived.Test.YtjjejcgpeefclaaDoorMfM
import Derived.Test.YtjjejcgpeefclaaDoorMq0
import Derived.Maps.AppendAt
import Derived.OwnWalk
import Derived.Laws.OwnMore
import Derived.Deep.QuietTactic
import Derived.BigQuiet
namespace Go.Proofs.YtjjejcgpeefclaaDoor
open Go.RowKit

def ints (l : List Nat) : List Value := l.map fun (x : Nat) => .int .i64 (x : Int)
theorem ints_len (l : List Nat) : (ints l).length = l.length := List.length_map _
theorem ints_append (l m : List Nat) : ints (l ++ m) = ints l ++ ints m := List.map_append
theorem ints_get {l : List Nat} {i x : Nat} (h : l[i]? = some x) : (ints l)[i]? = some (.int .i64 (x : Int)) := by
  unfold ints; rw [List.getElem?_map, h]; rfl
/-- A row of places, not nil. -/
def RowI (w : World) (base g c : Nat) (l : List Nat) : Prop := w.ownsRow base 3 1 (.slice (some ⟨g, 0, none⟩) l.length c) l.length (ints l)
theorem RowI.base {w : World} {base g c : Nat} {l : List Nat} (h : RowI w base g c l) : base ≤ g ∧ g < w.heap.size := rg_own_base h g rfl
theorem RowI.less {w : World} {base b g c : Nat} {l : List Nat} (h : RowI w base g c l) (hb : b ≤ base) : RowI w b g c l := rg_own_less h hb
theorem RowI.kept {w w' : World} {base g c : Nat} {l : List Nat} (h : RowI w base g c l) (hk : w'.heap[g]? = w.heap[g]?) : RowI w' base g c l :=
  rg_own_kept h fun k e => by obtain rfl : g = k := by simpa [Value.ownBlock] using e
                              exact hk
theorem RowI.next {w w' : World} {base g c : Nat} {l : List Nat} (h : RowI w base g c l) (hb : Below w.heap.size w w') : RowI w' base g c l := h.kept (hb.block g h.base.2)
theorem RowI.cell {w : World} {base g c : Nat} {l : List Nat} (h : RowI w base g c l) {i x : Nat} (hi : l[i]? = some x) : w.cell? ⟨g, i, none⟩ = some (.int .i64 (x : Int)) := by
  have hl : i < l.length := (List.getElem?_eq_some_iff.1 hi).1
  unfold RowI at h
  rw [h.cellAt i (by omega)]
  exact ints_get hi
theorem RowI.new (w : World) (l : List Nat) (base : Nat) (hb : base ≤ w.heap.size) (hl : l.length ≤ 1000000) : RowI (w.alloc (.cells (ints l).toArray 3)) base w.heap.size l.length l := by
  have h := World.ownsRow_lit (size := 1) (base := base) (e := 3) w (ints l).toArray l.length hb (by unfold maxLen; omega) (by simp [ints])
  simpa [RowI] using h
theorem Tryd.infoI : (Tryd.prog.info? 3).map (fun i => (i.zero, i.size, i.bytes)) = some (some (.int .i64 0), 1, 8) := by kernel_rfl
theorem ups_sub {P : Nat → Prop} {c : Nat} : ∀ {N : Nat}, c ≤ N → (ups P c).length ≤ (ups P N).length
  | 0, h => by obtain rfl : c = 0 := by omega
               exact Nat.le_refl _
  | N + 1, h => by
    by_cases e : c = N + 1
    · subst e; exact Nat.le_refl _
    · have := ups_sub (P := P) (c := c) (N := N) (by omega)
      by_cases hN : P N
      · rw [ups_on hN, List.length_append]; omega
      · rw [ups_off hN]; exact this
/-- A round that takes place x of the first alone, of the second alone, of both. -/
theorem up_step {P Q : Nat → Prop} {c x : Nat} {i2 k2 : Nat} (h : (ups P (x + 1)).length = i2 ∧ (ups Q (x + 1)).length = k2 ∧ ups (fun y => P y ∨ Q y) (x + 1) = ups (fun y => P y ∨ Q y) c ++ [x]) :
    (ups P (x + 1)).length = i2 ∧ (ups Q (x + 1)).length = k2 ∧ (ups (fun y => P y ∨ Q y) (x + 1)).length = (ups (fun y => P y ∨ Q y) c).length + 1 ∧ ints (ups (fun y => P y ∨ Q y) (x + 1)) = ints (ups (fun y => P y ∨ Q y) c) ++ [.int .i64 (x : Int)] := by
  obtain ⟨h1, h2, h3⟩ := h
  refine ⟨h1, h2, by rw [h3, List.length_append]; rfl, by rw [h3, ints_append]; rfl⟩
theorem ups_lenle (P : Nat → Prop) : ∀ n, (ups P n).length ≤ n
  | 0 => by simp [ups]
  | n + 1 => by
    by_cases h : P n
    · rw [ups_on h, List.length_append]; have := ups_lenle P n; simp; omega
    · rw [ups_off h]; have := ups_lenle P n; omega
/-- The second's alone. -/
theorem ups_right {P Q : Nat → Prop} {c x : Nat} (hc : c ≤ x) (hQ : Q x) (hq : ∀ y, c ≤ y → y < x → ¬ Q y) (hp : ∀ y, c ≤ y → y < x + 1 → ¬ P y) :
    (ups P (x + 1)).length = (ups P c).length ∧ (ups Q (x + 1)).length = (ups Q c).length + 1 ∧ ups (fun y => P y ∨ Q y) (x + 1) = ups (fun y => P y ∨ Q y) c ++ [x] := by
  obtain ⟨h1, h2, h3⟩ := ups_left (P := Q) (Q := P) hc hQ hq hp
  refine ⟨h2, h1, ?_⟩
  rw [ups_congr (P := fun y => P y ∨ Q y) (Q := fun y => Q y ∨ P y) (fun y => Or.comm), ups_congr (P := fun y => P y ∨ Q y) (Q := fun y => Q y ∨ P y) (fun y => Or.comm) c]
  exact h3
theorem below_dn {B : Nat} {w w' : World} (h : Below B w w') (n : Nat) : Below B w (w'.drewN n) := ⟨h.os, h.tape, h.output, h.size, h.block⟩
set_option maxHeartbeats 4000000 in
set_option maxRecDepth 100000 in
theorem rboth_any {P Q : Nat → Prop} {N : Nat} (hN : N ≤ 1000) {w : World} {ga ca gb cb : Nat} (ha : RowI w 0 ga ca (ups P N)) (hb : RowI w 0 gb cb (ups Q N)) :
    Calls Tryd.prog 72 #[.slice (some ⟨ga, 0, none⟩) (ups P N).length ca, .slice (some ⟨gb, 0, none⟩) (ups Q N).length cb] w fun e w' =>
      ∃ g c, e = .returned (.slice (some ⟨g, 0, none⟩) (ups (fun y => P y ∨ Q y) N).length c) ∧ RowI w' w.heap.size g c (ups (fun y => P y ∨ Q y) N) ∧ Below w.heap.size w w' := by
  obtain ⟨i0, hi, hz0, hz1, hz2⟩ := info_parts Tryd.infoI
  have HA := Lib.hid ha
  have HB := Lib.hid hb
  have hla := ups_lenle P N
  have hlb := ups_lenle Q N
  have HU : Hid (∀ c, c ≤ N → (ups P c).length ≤ (ups P N).length ∧ (ups Q c).length ≤ (ups Q N).length ∧ (ups (fun y => P y ∨ Q y) c).length ≤ N) := Lib.hid fun c h => ⟨ups_sub h, ups_sub h, Nat.le_trans (ups_lenle _ c) h⟩
  have HAT : Hid (∀ c, c ≤ N → (((ups P N)[(ups P c).length]? = none ∧ ∀ y, c ≤ y → y < N → ¬ P y) ∨ ∃ x, (ups P N)[(ups P c).length]? = some x ∧ c ≤ x ∧ x < N ∧ P x ∧ ∀ y, c ≤ y → y < x → ¬ P y)) := Lib.hid fun c h => ups_at h
  have HBT : Hid (∀ c, c ≤ N → (((ups Q N)[(ups Q c).length]? = none ∧ ∀ y, c ≤ y → y < N → ¬ Q y) ∨ ∃ x, (ups Q N)[(ups Q c).length]? = some x ∧ c ≤ x ∧ x < N ∧ Q x ∧ ∀ y, c ≤ y → y < x → ¬ Q y)) := Lib.hid fun c h => ups_at h
  clear ha hb
  obtain ⟨W1, hW1⟩ : ∃ W1, w.alloc (.cells #[] 3) = W1 := ⟨_, rfl⟩
  have h0 : RowI W1 w.heap.size w.heap.size 0 [] := by rw [← hW1]; exact RowI.new w [] _ (Nat.le_refl _) (by simp)
  have hb1 : Below w.heap.size w W1 := by rw [← hW1]; exact (Below.refl _ _).alloc (Nat.le_refl _) _
  have H0 := Lib.hid h0
  have HB1 := Lib.hid hb1
  have HW1 := Lib.hid hW1
  clear h0 hb1 hW1
  go_enter Tryd.func72, Tryd.ntmps72
  go_upto_region 2 with fail
  rw [HW1.out]
  clear HW1
  generalize hna : (ups P N).length = na at *
  generalize hnb : (ups Q N).length = nb at *
  have HNA := Lib.hid hna
  have HNB := Lib.hid hnb
  clear hna hnb
  go_wp2_with fail
  go_loopw [5, 6, 7] (fun ov iv kv wr => ∃ (c g cp : Nat), c ≤ N ∧ ov = .slice (some ⟨g, 0, none⟩) (ups (fun y => P y ∨ Q y) c).length cp ∧ iv = .int .i64 ((ups P c).length : Int) ∧ kv = .int .i64 ((ups Q c).length : Int) ∧ Hid (RowI wr w.heap.size g cp (ups (fun y => P y ∨ Q y) c)) ∧ Hid (Below w.heap.size w wr))
    (fun _ iv kv _ => na + nb - (intOf iv).toNat - (intOf kv).toNat)
  case atStart => exact ⟨0, w.heap.size, 0, Nat.zero_le _, rfl, rfl, rfl, H0, HB1⟩
  case round =>
    obtain ⟨c, g, cp, hc, rfl, rfl, rfl, HR, HW⟩ := hrel
    clear H0 HB1
    have hu := HU.out c hc
    have HRA : Hid (RowI wr 0 ga ca (ups P N)) := Lib.hid (HA.out.kept (HW.out.block _ HA.out.base.2))
    have HRB : Hid (RowI wr 0 gb cb (ups Q N)) := Lib.hid (HB.out.kept (HW.out.block _ HB.out.base.2))
    have hat := HAT.out c hc
    have hbt := HBT.out c hc
    obtain ⟨hu1, hu2, hu3⟩ := hu
    generalize hiN : (ups P c).length = i at *
    generalize hkN : (ups Q c).length = k at *
    generalize hmN : (ups (fun y => P y ∨ Q y) c).length = m at *
    have HI := Lib.hid hiN
    have HK := Lib.hid hkN
    have HM := Lib.hid hmN
    clear hiN hkN hmN
    have hm1 : m + 1 ≤ 100000 := by omega
    rcases hat with ⟨ha1, ha2⟩ | ⟨x, ha1, hax, haN, haP, han⟩
    · have hna : na ≤ i := by rw [List.getElem?_eq_none_iff, HNA.out] at ha1; exact ha1
      obtain rfl : i = na := by omega
      rcases hbt with ⟨hb1, hb2⟩ | ⟨y, hb1, hbx, hbN, hbQ, hbn⟩
      · have hnb : nb ≤ k := by rw [List.getElem?_eq_none_iff, HNB.out] at hb1; exact hb1
        obtain rfl : k = nb := by omega
        have HE : Hid (ups (fun y => P y ∨ Q y) N = ups (fun y => P y ∨ Q y) c) := Lib.hid (ups_end hc fun y h1 h2 h => h.elim (ha2 y h1 h2) (hb2 y h1 h2))
        clear ha1 ha2 hb1 hb2 hu1 hu2 hu3 hna hnb
        go_wp2_with fail
        go_ret
        exact ⟨g, cp, by rw [HE.out, HM.out]; rfl, by rw [HE.out]; exact HR.out, HW.out⟩
      · have hkl : k < nb := by rw [← HNB.out]; exact (List.getElem?_eq_some_iff.1 hb1).1
        have q1 : wr.cell? ⟨gb, k, none⟩ = some (.int .i64 (y : Int)) := HRB.out.cell hb1
        have b1 : ((k : Int) == (nb : Int)) = false := by rw [Bool.eq_false_iff]; intro h; have := eq_of_beq h; omega
        have b2 : decide ((i : Int) < (i : Int)) = false := decide_eq_false (by omega)
        have b3 : decide ((k : Int) < (nb : Int)) = true := decide_eq_true (by omega)
        clear ha1 hb1
        have hxI : (y : Int) ≤ 1000 := by omega
        have HST := Lib.hid (up_step (ups_right hbx hbQ hbn fun z h1 h2 => ha2 z h1 (by omega)))
        rw [HI.out, HK.out, HM.out] at HST
        go_wp2_with fail
        go_quiet (fail)
        go_wp2_with fail
        go_quiet (fail)
        go_wp2_with (at_builtin; refine wpList_append_own_at _ rfl (.tmp 64) (.tmp 69) 101 rfl w.heap.size 3 i0 (.int .i64 0) 1 8 Tryd.underlying101 hi hz0 hz1 hz2 rfl (by decide) (.slice (some ⟨g, 0, none⟩) m cp) m (ints (ups (fun y => P y ∨ Q y) c)) rfl (by have := HR.out; unfold RowI at this; rw [HM.out] at this; exact this.alloc _) ⟨wr.heap.size, 0, none⟩ 1 1 [.int .i64 (y : Int)] rfl rfl ?p1 ?p2 ?p3 ?p4 ?p5 ?_)
        try (case p1 => exact cell_one_new _ _ _)
        case p2 => simp [Value.oneCell']
        case p3 => unfold maxLen; omega
        case p4 => omega
        case p5 => have := HW.out.size; simp; omega
        intro v2 w9 hown9 hgrow9 _ _
        obtain ⟨g9, c9, rfl, -⟩ := rg_own_succ hown9
        have HR9 : Hid (RowI w9 w.heap.size g9 c9 (ups (fun y => P y ∨ Q y) (y + 1))) := Lib.hid (by
          unfold RowI; rw [HST.out.2.2.1, HST.out.2.2.2]; exact hown9)
        have HW9 : Hid (Below w.heap.size w w9) := Lib.hid (((below_dn HW.out _).alloc (by simpa using HW.out.size) _).grown hgrow9 (by simp; have := HW.out.size; omega) (fun j hj => by
          have := HR.out.base
          obtain rfl : g = j := by simpa [Value.ownBlock] using hj
          exact this.1))
        clear hown9 hgrow9 HR HW HRA HRB
        go_wp2_with fail
        go_roundw
        case rel => exact ⟨y + 1, g9, c9, by omega, by rw [HST.out.2.2.1], by rw [HST.out.1], by rw [HST.out.2.1]; go_num, HR9, HW9⟩
        case measure => simp [intOf]; omega
    · have hil : i < na := by rw [← HNA.out]; exact (List.getElem?_eq_some_iff.1 ha1).1
      have q0 : wr.cell? ⟨ga, i, none⟩ = some (.int .i64 (x : Int)) := HRA.out.cell ha1
      have b3 : decide ((i : Int) < (na : Int)) = true := decide_eq_true (by omega)
      have b4 : ((i : Int) == (na : Int)) = false := by rw [Bool.eq_false_iff]; intro h; have := eq_of_beq h; omega
      clear ha1
      rcases hbt with ⟨hb1, hb2⟩ | ⟨y, hb1, hbx, hbN, hbQ, hbn⟩
      · have hnb : nb ≤ k := by rw [List.getElem?_eq_none_iff, HNB.out] at hb1; exact hb1
        obtain rfl : k = nb := by omega
        have b1 : ((k : Int) == (k : Int)) = true := by simp
        clear hb1
        have hxI : (x : Int) ≤ 1000 := by omega
        have HST := Lib.hid (up_step (ups_left hax haP han fun z h1 h2 => hb2 z h1 (by omega)))
        rw [HI.out, HK.out, HM.out] at HST
        go_wp2_with fail
        go_quiet (fail)
        go_wp2_with (at_builtin; refine wpList_append_own_at _ rfl (.tmp 40) (.tmp 45) 101 rfl w.heap.size 3 i0 (.int .i64 0) 1 8 Tryd.underlying101 hi hz0 hz1 hz2 rfl (by decide) (.slice (some ⟨g, 0, none⟩) m cp) m (ints (ups (fun y => P y ∨ Q y) c)) rfl (by have := HR.out; unfold RowI at this; rw [HM.out] at this; exact this.alloc _) ⟨wr.heap.size, 0, none⟩ 1 1 [.int .i64 (x : Int)] rfl rfl ?p1 ?p2 ?p3 ?p4 ?p5 ?_)
        try (case p1 => exact cell_one_new _ _ _)
        case p2 => simp [Value.oneCell']
        case p3 => unfold maxLen; omega
        case p4 => omega
        case p5 => have := HW.out.size; simp; omega
        intro v2 w9 hown9 hgrow9 _ _
        obtain ⟨g9, c9, rfl, -⟩ := rg_own_succ hown9
        have HR9 : Hid (RowI w9 w.heap.size g9 c9 (ups (fun y => P y ∨ Q y) (x + 1))) := Lib.hid (by
          unfold RowI; rw [HST.out.2.2.1, HST.out.2.2.2]; exact hown9)
        have HW9 : Hid (Below w.heap.size w w9) := Lib.hid (((below_dn HW.out _).alloc (by simpa using HW.out.size) _).grown hgrow9 (by simp; have := HW.out.size; omega) (fun j hj => by
          have := HR.out.base
          obtain rfl : g = j := by simpa [Value.ownBlock] using hj
          exact this.1))
        clear hown9 hgrow9 HR HW HRA HRB
        go_wp2_with fail
        go_roundw
        case rel => exact ⟨x + 1, g9, c9, by omega, by rw [HST.out.2.2.1], by rw [HST.out.1]; go_num, by rw [HST.out.2.1], HR9, HW9⟩
        case measure => simp [intOf]; omega
      · have hkl : k < nb := by rw [← HNB.out]; exact (List.getElem?_eq_some_iff.1 hb1).1
        have q1 : wr.cell? ⟨gb, k, none⟩ = some (.int .i64 (y : Int)) := HRB.out.cell hb1
        have b1 : ((k : Int) == (nb : Int)) = false := by rw [Bool.eq_false_iff]; intro h; have := eq_of_beq h; omega
        clear hb1
        rcases Nat.lt_trichotomy x y with hxy | rfl | hxy
        · have b2 : decide ((x : Int) < (y : Int)) = true := decide_eq_true (by omega)
          have hxI : (x : Int) ≤ 1000 := by omega
          have HST := Lib.hid (up_step (ups_left hax haP han fun z h1 h2 => hbn z h1 (by omega)))
          rw [HI.out, HK.out, HM.out] at HST
          go_wp2_with fail
          go_quiet (fail)
          go_wp2_with (at_builtin; refine wpList_append_own_at _ rfl (.tmp 40) (.tmp 45) 101 rfl w.heap.size 3 i0 (.int .i64 0) 1 8 Tryd.underlying101 hi hz0 hz1 hz2 rfl (by decide) (.slice (some ⟨g, 0, none⟩) m cp) m (ints (ups (fun y => P y ∨ Q y) c)) rfl (by have := HR.out; unfold RowI at this; rw [HM.out] at this; exact this.alloc _) ⟨wr.heap.size, 0, none⟩ 1 1 [.int .i64 (x : Int)] rfl rfl ?p1 ?p2 ?p3 ?p4 ?p5 ?_)
          try (case p1 => exact cell_one_new _ _ _)
          case p2 => simp [Value.oneCell']
          case p3 => unfold maxLen; omega
          case p4 => omega
          case p5 => have := HW.out.size; simp; omega
          intro v2 w9 hown9 hgrow9 _ _
          obtain ⟨g9, c9, rfl, -⟩ := rg_own_succ hown9
          have HR9 : Hid (RowI w9 w.heap.size g9 c9 (ups (fun y => P y ∨ Q y) (x + 1))) := Lib.hid (by
            unfold RowI; rw [HST.out.2.2.1, HST.out.2.2.2]; exact hown9)
          have HW9 : Hid (Below w.heap.size w w9) := Lib.hid (((below_dn HW.out _).alloc (by simpa using HW.out.size) _).grown hgrow9 (by simp; have := HW.out.size; omega) (fun j hj => by
            have := HR.out.base
            obtain rfl : g = j := by simpa [Value.ownBlock] using hj
            exact this.1))
          clear hown9 hgrow9 HR HW HRA HRB
          go_wp2_with fail
          go_roundw
          case rel => exact ⟨x + 1, g9, c9, by omega, by rw [HST.out.2.2.1], by rw [HST.out.1]; go_num, by rw [HST.out.2.1], HR9, HW9⟩
          case measure => simp [intOf]; omega
        · have b2 : decide ((x : Int) < (x : Int)) = false := decide_eq_false (by omega)
          have hxI : (x : Int) ≤ 1000 := by omega
          have HST := Lib.hid (up_step (ups_both hax haP hbQ han hbn))
          rw [HI.out, HK.out, HM.out] at HST
          go_wp2_with fail
          go_quiet (fail)
          go_wp2_with fail
          go_quiet (fail)
          go_wp2_with (at_builtin; refine wpList_append_own_at _ rfl (.tmp 73) (.tmp 78) 101 rfl w.heap.size 3 i0 (.int .i64 0) 1 8 Tryd.underlying101 hi hz0 hz1 hz2 rfl (by decide) (.slice (some ⟨g, 0, none⟩) m cp) m (ints (ups (fun y => P y ∨ Q y) c)) rfl (by have := HR.out; unfold RowI at this; rw [HM.out] at this; exact this.alloc _) ⟨wr.heap.size, 0, none⟩ 1 1 [.int .i64 (x : Int)] rfl rfl ?p1 ?p2 ?p3 ?p4 ?p5 ?_)
          try (case p1 => exact cell_one_new _ _ _)
          case p2 => simp [Value.oneCell']
          case p3 => unfold maxLen; omega
          case p4 => omega
          case p5 => have := HW.out.size; simp; omega
          intro v2 w9 hown9 hgrow9 _ _
          obtain ⟨g9, c9, rfl, -⟩ := rg_own_succ hown9
          have HR9 : Hid (RowI w9 w.heap.size g9 c9 (ups (fun y => P y ∨ Q y) (x + 1))) := Lib.hid (by
            unfold RowI; rw [HST.out.2.2.1, HST.out.2.2.2]; exact hown9)
          have HW9 : Hid (Below w.heap.size w w9) := Lib.hid (((below_dn HW.out _).alloc (by simpa using HW.out.size) _).grown hgrow9 (by simp; have := HW.out.size; omega) (fun j hj => by
            have := HR.out.base
            obtain rfl : g = j := by simpa [Value.ownBlock] using hj
            exact this.1))
          clear hown9 hgrow9 HR HW HRA HRB
          go_wp2_with fail
          go_roundw
          case rel => exact ⟨x + 1, g9, c9, by omega, by rw [HST.out.2.2.1], by rw [HST.out.1]; go_num, by rw [HST.out.2.1]; go_num, HR9, HW9⟩
          case measure => simp [intOf]; omega
        · have b2 : decide ((x : Int) < (y : Int)) = false := decide_eq_false (by omega)
          have b5 : decide ((y : Int) < (x : Int)) = true := decide_eq_true (by omega)
          have hxI : (y : Int) ≤ 1000 := by omega
          have HST := Lib.hid (up_step (ups_right hbx hbQ hbn fun z h1 h2 => han z h1 (by omega)))
          rw [HI.out, HK.out, HM.out] at HST
          go_wp2_with fail
          go_quiet (fail)
          go_wp2_with fail
          go_quiet (fail)
          go_wp2_with (at_builtin; refine wpList_append_own_at _ rfl (.tmp 64) (.tmp 69) 101 rfl w.heap.size 3 i0 (.int .i64 0) 1 8 Tryd.underlying101 hi hz0 hz1 hz2 rfl (by decide) (.slice (some ⟨g, 0, none⟩) m cp) m (ints (ups (fun y => P y ∨ Q y) c)) rfl (by have := HR.out; unfold RowI at this; rw [HM.out] at this; exact this.alloc _) ⟨wr.heap.size, 0, none⟩ 1 1 [.int .i64 (y : Int)] rfl rfl ?p1 ?p2 ?p3 ?p4 ?p5 ?_)
          try (case p1 => exact cell_one_new _ _ _)
          case p2 => simp [Value.oneCell']
          case p3 => unfold maxLen; omega
          case p4 => omega
          case p5 => have := HW.out.size; simp; omega
          intro v2 w9 hown9 hgrow9 _ _
          obtain ⟨g9, c9, rfl, -⟩ := rg_own_succ hown9
          have HR9 : Hid (RowI w9 w.heap.size g9 c9 (ups (fun y => P y ∨ Q y) (y + 1))) := Lib.hid (by
            unfold RowI; rw [HST.out.2.2.1, HST.out.2.2.2]; exact hown9)
          have HW9 : Hid (Below w.heap.size w w9) := Lib.hid (((below_dn HW.out _).alloc (by simpa using HW.out.size) _).grown hgrow9 (by simp; have := HW.out.size; omega) (fun j hj => by
            have := HR.out.base
            obtain rfl : g = j := by simpa [Value.ownBlock] using hj
            exact this.1))
          clear hown9 hgrow9 HR HW HRA HRB
          go_wp2_with fail
          go_roundw
          case rel => exact ⟨y + 1, g9, c9, by omega, by rw [HST.out.2.2.1], by rw [HST.out.1], by rw [HST.out.2.1]; go_num, HR9, HW9⟩
          case measure => simp [intOf]; omega
end Go.Proofs.YtjjejcgpeefclaaDoor
