/-
  CONTRACTS of layer 16's Fields: a new row of the same values.
-/
import Derived.Test.YtllbnbnpcogckaaGreatDoorInW8
namespace Go.Proofs.YtllbnbnpcogckaaGreatDoor
open Go.RowKit

def FdPost (l : List Ce) (w : World) (e : Ending) (w' : World) : Prop :=
  ∃ v, e = .returned v ∧ w'.ownsRow w.heap.size 42 3 v l.length (ceRow l) ∧ Below w.heap.size w w'
theorem run_nil (W : World) : (binOp .eql 33 (.slice none 0 0) (.slice none 0 0)).run Tryz.prog W = .ok (.bool true) W := by kernel_rfl
theorem run_some (g n c : Nat) (W : World) : (binOp .eql 33 (.slice (some ⟨g, 0, none⟩) n c) (.slice none 0 0)).run Tryz.prog W = .ok (.bool false) W := by kernel_rfl
set_option maxHeartbeats 2000000 in
set_option maxRecDepth 100000 in
theorem slclone_any (v : Value) (l : List Ce) (w : World) (h : w.ownsRow 0 42 3 v l.length (ceRow l)) (hl : l.length ≤ 500) :
    Calls Tryz.prog 45 #[v] w (FdPost l w) := by
  obtain ⟨i0, hi, hz0, hz1, hz2⟩ := info_parts Tryz.infoCe
  obtain ⟨p, c, rfl⟩ := own_form h
  cases p with
  | none =>
    rcases h.2 with ⟨h1, h0⟩ | ⟨_, _, _, h1, _⟩
    · injection h1 with _ _ h1
      have hl0 : l = [] := List.eq_nil_of_length_eq_zero h0
      subst hl0 h1
      clear h
      have hq := fun W => run_nil W
      go_enter Tryz.func45, Tryz.ntmps45
      go_wp2
      go_ret
      exact ⟨_, rfl, World.ownsRow_nil w _ _ _, Below.refl _ _⟩
    · cases h1
  | some q =>
    obtain ⟨g, rfl⟩ : ∃ g, q = ⟨g, 0, none⟩ := by
      rcases h.2 with ⟨h1, _⟩ | ⟨g, _, _, h1, _⟩
      · cases h1
      · injection h1 with h1 _ _; injection h1 with h1; exact ⟨g, h1⟩
    have HM : Hid ((w.alloc (.cells #[] 42)).ownsRow w.heap.size 42 3 (.slice (some ⟨w.heap.size, 0, none⟩) 0 0) 0 []) := Lib.hid (World.ownsRow_made w #[] 0 (Nat.le_refl _) (by decide) rfl)
    have HC := Lib.hid ((h.alloc (.cells #[] 42)).cells (g := g) rfl)
    clear h
    have hq := fun W => run_some g l.length c W
    go_enter Tryz.func45, Tryz.ntmps45
    go_wp2_with (at_builtin; refine wpList_append_own _ rfl (.tmp 5) (.tmp 6) 33 rfl w.heap.size 42 i0 (.agg #[.int .i64 0, .int .i64 0, .string ⟨#[]⟩]) 3 32 Tryz.underlying33 hi hz0 hz1 hz2 rfl (by decide) (.slice (some ⟨w.heap.size, 0, none⟩) 0 0) 0 [] rfl HM.out ⟨g, 0, none⟩ l.length c (ceRow l) rfl (ceRow_len l) HC.out (vals_one l) ?c1 ?c2 ?c3 ?_)
    case c1 => unfold maxLen; omega
    case c2 => omega
    case c3 => simp
    intro v' w3 hown3 hgrow _
    have HB := Lib.hid (((Below.refl w.heap.size w).alloc (Nat.le_refl _) (.cells #[] 42)).grown hgrow (by simp) (fun j hj => (HM.out.lt j hj).1))
    have HR := Lib.hid hown3
    clear hown3 hgrow HM HC
    go_wp2_with fail
    go_ret
    exact ⟨_, rfl, HR.out, HB.out⟩
theorem set_self (l : List Ce) (k : Nat) (h : k < l.length) : l.set k l[k] = l := by simp
set_option maxHeartbeats 4000000 in
set_option maxRecDepth 100000 in
theorem cloneall_any (v : Value) (l : List Ce) (w : World) (h : w.ownsRow 0 42 3 v l.length (ceRow l)) (hl : l.length ≤ 500) (hs : ∀ c ∈ l, c.s.size ≤ 1000000) :
    Calls Tryz.prog 33 #[v] w (FdPost l w) := by
  have C := Lib.hid (slclone_any v l w h hl)
  have HS := Lib.hid hs
  clear h hs
  go_enter Tryz.func33, Tryz.ntmps33
  go_wp2_with fail
  refine C.out.mono ?_
  rintro e w1 ⟨v1, rfl, ho, hb⟩
  obtain ⟨p, c, rfl⟩ := own_form ho
  have HI := Lib.hid (And.intro ho hb)
  clear ho hb C
  go_wp2_with fail
  go_loopw [10] (fun iv wr => ∃ k : Nat, k ≤ l.length ∧ iv = .int .i64 k ∧ Hid (wr.ownsRow w.heap.size 42 3 (.slice p l.length c) l.length (ceRow l) ∧ Below w.heap.size w wr)) (fun iv _ => l.length - (intOf iv).toNat)
  case atStart => exact ⟨0, Nat.zero_le _, rfl, HI⟩
  case round =>
    obtain ⟨k, hk, rfl, HX⟩ := hrel
    clear HI
    by_cases hlt : k < l.length
    · have hki : (k : Int) < (l.length : Int) := by omega
      obtain ⟨g, rfl⟩ : ∃ g, p = some ⟨g, 0, none⟩ := by
        rcases HX.out.1.2 with ⟨h1, h0⟩ | ⟨g, cap, cur, h1, _⟩
        · omega
        · injection h1 with h1 _ _; exact ⟨g, h1⟩
      obtain ⟨c0, c1, c2⟩ := ce_cells HX.out.1 k hlt hlt
      have hsm := HS.out _ (List.getElem_mem hlt)
      have CL := Lib.hid fun W => iclone_any l[k].k l[k].n l[k].s W hsm
      unfold cv at CL
      have hset := set_self l k hlt
      have HP := Lib.hid fun (wq : World) (h : wq.ownsRow w.heap.size 42 3 (.slice (some ⟨g, 0, none⟩) l.length c) l.length (ceRow l)) => (by
        have h1 := (((h.stored (k * 3) (.int .i64 l[k].k)).1.stored (k * 3 + 1) (.int .i64 l[k].n)).1.stored (k * 3 + 2) (.string l[k].s)).1
        have e1 : l = l.take k ++ l[k] :: l.drop (k + 1) := by rw [List.getElem_cons_drop, List.take_append_drop]
        have h2 := ceRow_set (l.take k) (l.drop (k + 1)) l[k] l[k]
        rw [show (l.take k).length = k by rw [List.length_take]; omega, ← e1] at h2
        rw [h2] at h1
        exact h1 : (((wq.setCell ⟨g, k * 3, none⟩ (.int .i64 l[k].k)).setCell ⟨g, k * 3 + 1, none⟩ (.int .i64 l[k].n)).setCell ⟨g, k * 3 + 2, none⟩ (.string l[k].s)).ownsRow w.heap.size 42 3 (.slice (some ⟨g, 0, none⟩) l.length c) l.length (ceRow l))
      clear hset hsm
      generalize l[k].k = ek at *
      generalize l[k].n = en at *
      generalize l[k].s = es at *
      go_wp2_with fail
      refine (CL.out _).mono ?_
      rintro e w2 ⟨rfl, hb2⟩
      have hgl := HX.out.1.lt g rfl
      have hba : Below wr.heap.size wr (wr.alloc (.cells #[.int .i64 ek, .int .i64 en, .string es] 42)) := (Below.refl _ _).alloc (Nat.le_refl _) _
      have hb3 := hba.trans (hb2.mono (by simp))
      have hr2 := own_next HX.out.1 hb3
      have d0 := (hb3.cell (p := ⟨g, k * 3, none⟩) hgl.2).trans c0
      have d1 := (hb3.cell (p := ⟨g, k * 3 + 1, none⟩) hgl.2).trans c1
      have d2 := (hb3.cell (p := ⟨g, k * 3 + 2, none⟩) hgl.2).trans c2
      have f0 := hr2.frozenAt (k * 3)
      have f1 := hr2.frozenAt (k * 3 + 1)
      have f2 := hr2.frozenAt (k * 3 + 2)
      have hbw := HX.out.2.trans (hb3.mono HX.out.2.size)
      have HN := Lib.hid (And.intro (HP.out w2 hr2) (((hbw.setCell (p := ⟨g, k * 3, none⟩) hgl.1 (.int .i64 ek)).setCell (p := ⟨g, k * 3 + 1, none⟩) hgl.1 (.int .i64 en)).setCell (p := ⟨g, k * 3 + 2, none⟩) hgl.1 (.string es)))
      clear hb2 hba hb3 hr2 hbw hgl c0 c1 c2 CL HP HX
      go_wp2_with fail
      go_roundw
      case rel => exact ⟨k + 1, by omega, by go_num, HN⟩
      case measure => simp [intOf]; omega
    · have hki : ¬ (k : Int) < (l.length : Int) := by omega
      go_wp2_with fail
      go_ret
      exact ⟨_, rfl, HX.out⟩
theorem rfields_any {w : World} {b : Nat} {s : ByteArray} {l : List Ce} {v : Value} (h : Rec w b s l v) (hl : l.length ≤ 500) (hs : ∀ c ∈ l, c.s.size ≤ 1000000) :
    Calls Tryz.prog 19 #[.pointer (some ⟨b, 0, none⟩)] w (FdPost l w) := by
  have C := Lib.hid (cloneall_any v l w h.row hl hs)
  have hc1 : w.cell? ⟨b, 1, none⟩ = some v := block_cell h.blk
  clear h hs
  go_enter Tryz.func19, Tryz.ntmps19
  go_wp2_with fail
  refine C.out.mono ?_
  rintro e w1 ⟨v1, rfl, ho, hb⟩
  have HI := Lib.hid (And.intro ho hb)
  clear ho hb C
  go_wp2_with fail
  go_ret
  exact ⟨_, rfl, HI.out.1, HI.out.2⟩
end Go.Proofs.YtllbnbnpcogckaaGreatDoor
