/-
  THE WALK of the law ScribeSummed: whatever the text and the size, it returns true and writes to nothing that was there.
-/
import Derived.Test.YtdpplnjnkckocaaDoorDjW
namespace Go.Proofs.YtdpplnjnkckocaaDoor
open Go.RowKit Go.Maps

theorem fit_ab : (((frameL (⟨#[97, 98]⟩ : ByteArray).data.toList).length : Nat) : Int) ≤ 1000 - lenC none ∧ (0 : Int) = 0 ∧ some (frameL (⟨#[97, 98]⟩ : ByteArray).data.toList) = some (frameL (⟨#[97, 98]⟩ : ByteArray).data.toList) := by
  have f2 : (frameL (⟨#[97, 98]⟩ : ByteArray).data.toList).length ≤ 42 := frame_size [97, 98] (by decide)
  exact ⟨by rw [lenC_none]; omega, rfl, rfl⟩
set_option maxHeartbeats 4000000 in
set_option maxRecDepth 100000 in
theorem live_any (w : World) (G : Gl w) : Calls Tryd.prog 11 #[] w fun e w' => e = .returned (.bool true) ∧ Below w.heap.size w w' := by
  have NC := Lib.hid (new_d (Fp := Fb w.heap.size) w (Fb_up (Nat.le_refl _)) 1000 (by omega) 1000 (by omega))
  have HG := Lib.hid G
  clear G
  go_enter Tryd.func11, Tryd.ntmps11
  go_wp2_with fail
  refine NC.out.mono ?_
  rintro e w1 ⟨rfl, d0, o0⟩
  have P1 := Lib.hid (save_js HG.out (o0.fb (Nat.le_refl _)) (Nat.le_refl _) d0 o0.size (by omega) (js_new 1000 (by omega)) ⟨#[97, 98]⟩ (by decide) 0 (some (frameL (⟨#[97, 98]⟩ : ByteArray).data.toList)) (.inl fit_ab))
  have O1 := Lib.hid o0
  clear NC d0 o0
  go_wp2_with fail
  refine P1.out.mono ?_
  rintro e w2 ⟨rfl, D1, J1, d1, o1⟩
  have O2 := Lib.hid (O1.out.trans o1)
  have P2 := Lib.hid (load_some (HG.out.next (O2.out.fb (Nat.le_refl _))) d1 (t := ⟨#[97, 98]⟩) (by decide) J1)
  clear P1 J1 d1 o1 O1
  go_wp2_with fail
  refine P2.out.mono ?_
  rintro e w3 ⟨rfl, hb3⟩
  have O3 := Lib.hid (O2.out.trans (Oth.of_below hb3))
  have P3 := Lib.hid (of_any ⟨#[97, 98]⟩ w3 (by decide))
  rw [show Ad.sum (⟨#[97, 98]⟩ : ByteArray).data.toList = 19267780 from by decide] at P3
  clear P2 hb3 O2
  go_wp2_with fail
  refine P3.out.mono ?_
  rintro e w4 ⟨rfl, hb4⟩
  have O4 := Lib.hid (O3.out.trans (Oth.of_below hb4))
  clear P3 hb4 O3
  go_wp2
  go_ret
  exact ⟨rfl, O4.out.fb (Nat.le_refl _)⟩

/-- What the loop keeps: the sum so far in its box, the disk beside it. -/
structure SmR (w : World) (p : Nat) (Bd : Nat) (d : DS) (x : ByteArray) (k : Nat) (wr : World) : Prop where
  c0 : wr.cell? ⟨p, 0, none⟩ = some (.int .u64 (Ad.ha 1 (x.data.toList.take k) : Nat))
  c1 : wr.cell? ⟨p, 1, none⟩ = some (.int .u64 (Ad.hb 1 0 (x.data.toList.take k) : Nat))
  z0 : wr.frozen? ⟨p, 0, none⟩ = false
  z1 : wr.frozen? ⟨p, 1, none⟩ = false
  dsk : Dsk (fun j => w.heap.size ≤ j ∧ j ≠ p) wr Bd d 1000
  bel : Below w.heap.size w wr
theorem SmR.next {w wr w1 : World} {p Bd : Nat} {d : DS} {x : ByteArray} {k : Nat} (h : SmR w p Bd d x k wr) (hb : Below wr.heap.size wr w1) : SmR w p Bd d x k w1 := by
  have hp := World.block_lt_of_cell? _ _ h.c0
  exact ⟨(hb.cell (p := ⟨p, 0, none⟩) hp).trans h.c0, (hb.cell (p := ⟨p, 1, none⟩) hp).trans h.c1, (hb.frozen (p := ⟨p, 0, none⟩) hp).trans h.z0, (hb.frozen (p := ⟨p, 1, none⟩) hp).trans h.z1, h.dsk.below hb, h.bel.trans (hb.mono h.bel.size)⟩
theorem Dsk.setP {Fp : Nat → Prop} {w : World} {Bd : Nat} {d : DS} {m p : Nat} (h : Dsk Fp w Bd d m) (hp : ¬ Fp p) (i : Nat) (v : Value) : Dsk Fp (w.setCell ⟨p, i, none⟩ v) Bd d m := by
  obtain ⟨a, b, c, hne, hD⟩ := h
  exact ⟨a, b, c, hne, hD.kept (fun j _ hj => Below.heap_setCell w ⟨p, i, none⟩ v j (fun e => hp (by have e' : j = p := e; rwa [e'] at hj)))⟩
theorem SmR.put {w wr : World} {p Bd : Nat} {d : DS} {x : ByteArray} {k k2 : Nat} (h : SmR w p Bd d x k wr) (hp : w.heap.size ≤ p) :
    SmR w p Bd d x k2 ((wr.setCell ⟨p, 0, none⟩ (.int .u64 (Ad.ha 1 (x.data.toList.take k2) : Nat))).setCell ⟨p, 1, none⟩ (.int .u64 (Ad.hb 1 0 (x.data.toList.take k2) : Nat))) := by
  refine ⟨?_, ?_, by simpa using h.z0, by simpa using h.z1, (h.dsk.setP (by simp) _ _).setP (by simp) _ _, (h.bel.setCell (p := ⟨p, 0, none⟩) hp _).setCell (p := ⟨p, 1, none⟩) hp _⟩
  · rw [World.cell?_setCell_other _ _ _ _ (by simp)]
    exact World.cell?_setCell_same _ _ _ h.c0
  · refine World.cell?_setCell_same _ _ _ (u := .int .u64 (Ad.hb 1 0 (x.data.toList.take k) : Nat)) ?_
    rw [World.cell?_setCell_other _ _ _ _ (by simp)]
    exact h.c1
theorem read_f {d : DS} {b : Nat} {x : ByteArray} (hd : d.dead = false) (hn : getD d.now [102] = some b) (hf : (d.fs b).1 = x.data.toList) (k n : Nat) :
    readS d ⟨#[102]⟩ k n = ⟨((x.data.toList.drop k).take n).toArray⟩ ∧ readE d ⟨#[102]⟩ k n = 0 := by
  obtain ⟨h1, h2⟩ := live_find (d := d) (n := [102]) hd
  rw [hn] at h1 h2
  constructor
  · unfold readS
    rw [show (⟨#[102]⟩ : ByteArray).data.toList = [102] from rfl, h1]
    simp only []
    rw [if_neg (by omega), hf]
    simp
  · unfold readE
    rw [show (⟨#[102]⟩ : ByteArray).data.toList = [102] from rfl, h2]
    simp
set_option maxHeartbeats 8000000 in
set_option maxRecDepth 100000 in
theorem summed_walk (s : ByteArray) (n0 : Int) (hs : s.size ≤ maxLen) (_hn : (Lit.int .i64 n0).wf = true) (w : World) (G : Gl w) :
    Calls Tryd.prog 4 #[.string s, .int .i64 n0] w fun e w' => e = .returned (.bool true) ∧ Below w.heap.size w w' := by
  have LV := Lib.hid (live_any w G)
  have C1 := Lib.hid (fun w => cut_any s 500 w hs (by omega))
  have l1 := cutB_size s 500
  generalize cutB s 500 = x at *
  clear hs _hn G
  by_cases h1 : n0 < 1
  · go_enter Tryd.func4, Tryd.ntmps4
    go_wp2_with fail
    refine LV.out.mono ?_
    rintro e w1 ⟨rfl, hb1⟩
    have HB1 := Lib.hid hb1
    clear hb1
    go_wp2_with fail
    refine (C1.out _).mono ?_
    rintro e w2 ⟨rfl, rfl⟩
    go_wp2
    go_ret
    exact ⟨rfl, HB1.out⟩
  have h1' : decide (n0 < 1) = false := by simpa using h1
  by_cases h2 : 600 < n0
  · go_enter Tryd.func4, Tryd.ntmps4
    go_wp2_with fail
    refine LV.out.mono ?_
    rintro e w1 ⟨rfl, hb1⟩
    have HB1 := Lib.hid hb1
    clear hb1
    go_wp2_with fail
    refine (C1.out _).mono ?_
    rintro e w2 ⟨rfl, rfl⟩
    go_wp2
    go_ret
    exact ⟨rfl, HB1.out⟩
  have h2' : decide (600 < n0) = false := by simpa using h2
  obtain ⟨n, rfl⟩ : ∃ n : Nat, n0 = n := ⟨n0.toNat, by omega⟩
  have n1 : 1 ≤ n := by omega
  have n6 : n ≤ 600 := by omega
  have xl : x.data.toList.length = x.size := by simp
  clear h1 h2
  go_enter Tryd.func4, Tryd.ntmps4
  go_wp2_with fail
  refine LV.out.mono ?_
  rintro e w1 ⟨rfl, hb1⟩
  have HB1 := Lib.hid hb1
  clear hb1 LV
  go_wp2_with fail
  refine (C1.out _).mono ?_
  rintro e w2 ⟨rfl, rfl⟩
  have NC := Lib.hid (new_d (Fp := Fb w.heap.size) w1 (Fb_up HB1.out.size) 1000 (by omega) 1000 (by omega))
  go_wp2_with fail
  refine NC.out.mono ?_
  rintro e w2 ⟨rfl, d0, o0⟩
  have P1 := Lib.hid (append_d d0 (o0.up (Fb_up HB1.out.size)) ⟨#[102]⟩ x (by decide) (by omega) (by omega))
  rw [((sm_new 1000 (by omega)).next (s := ⟨#[102]⟩) (t := x) (b := w2.heap.size) (by decide) rfl d0.fresh (by omega) (by omega) (.inl ⟨by omega, rfl, rfl⟩)).1] at P1
  have O1 := Lib.hid (HB1.out.trans (o0.fb HB1.out.size))
  clear NC d0 o0
  go_wp2_with fail
  refine P1.out.mono ?_
  rintro e w3 ⟨rfl, b, hb, d1, o1⟩
  have O2 := Lib.hid (O1.out.trans (o1.fb O1.out.size))
  have S1 := ((sm_new 1000 (by omega)).app (s := ⟨#[102]⟩) (t := x) (b := b) (by decide) rfl hb (by omega) (by omega)).1 (by omega)
  have hdead := S1.2.1.dead
  have hget := S1.2.2.1
  have hfs : ((appD (newDS 1000) ⟨#[102]⟩ x b).fs b).1 = x.data.toList := by rw [S1.2.2.2.2]; simp [newF, upd_same]
  generalize appD (newDS 1000) ⟨#[102]⟩ x b = D1 at *
  have RD := Lib.hid (fun k => read_f hdead hget hfs k n)
  have K2 := Lib.hid d1
  have SN := Lib.hid (@new_any)
  clear P1 d1 o1 O1 S1 hb hdead hget hfs
  go_wp2_with fail
  refine (SN.out _).mono ?_
  rintro e w4 ⟨rfl, hb4⟩
  have HB4 := Lib.hid hb4
  clear hb4 SN
  have d4 := K2.out.below HB4.out
  have O4 := Lib.hid (O2.out.trans (HB4.out.mono O2.out.size))
  go_wp2_with fail
  have HR0 : Hid (SmR w w4.heap.size (w1.heap.size + 2) D1 x 0 (w4.alloc (.cells #[.int .u64 1, .int .u64 0] 35))) := by
    refine Lib.hid ⟨?_, ?_, ?_, ?_, ?_, ?_⟩
    · simp [go_sem, Ad.ha_nil]
    · simp [go_sem, Ad.hb_nil]
    · simp [go_sem]
    · simp [go_sem]
    · refine (d4.wider (Fq := fun j => w.heap.size ≤ j ∧ j ≠ w4.heap.size) (fun j hj hf => ⟨hf, by omega⟩)).below ((Below.refl _ _).alloc (Nat.le_refl _) _)
    · exact O4.out.alloc O4.out.size _
  have hpp : w.heap.size ≤ w4.heap.size := O4.out.size
  clear d4 K2 O2 O4 HB4 HB1
  have hsn : Ad.sum (x.data.toList.take 0) = 1 := by rw [List.take_zero]; decide
  have VA := Lib.hid (@value_any)
  have ADD := Lib.hid (@add_any)
  have OF := Lib.hid (fun (t : ByteArray) (w : World) (h : t.size ≤ maxLen) => of_any t w h)
  have JN := Lib.hid (@join_any)
  go_loopw [7, 8] (fun av iv wr => ∃ k : Nat, k ≤ 1200 ∧ av = .int .u32 (Ad.sum (x.data.toList.take k) : Nat) ∧ iv = .int .i64 k ∧ Hid (SmR w w4.heap.size (w1.heap.size + 2) D1 x k wr)) (fun _ iv _ => 1200 - (intOf iv).toNat)
  case atStart => exact ⟨0, by omega, by rw [hsn]; rfl, rfl, HR0⟩
  case round =>
    obtain ⟨k, hk, rfl, rfl, HK⟩ := hrel
    by_cases hlt : k < x.size
    · have R := HK.out
      have RDC := Lib.hid (read_d R.dsk ⟨#[102]⟩ (by decide) k n (by omega) (by omega))
      rw [(RD.out k).1, (RD.out k).2] at RDC
      have hpl : ((x.data.toList.drop k).take n).length ≤ 600 := by simp; omega
      have htk : x.data.toList.take (k + n) = x.data.toList.take k ++ (x.data.toList.drop k).take n := List.take_add
      have hsum : Ad.join (Ad.sum (x.data.toList.take k)) (Ad.sum ((x.data.toList.drop k).take n)) ((x.data.toList.drop k).take n).length = Ad.sum (x.data.toList.take (k + n)) := by rw [Ad.join_sum, htk]
      have hha : Ad.ha (Ad.ha 1 (x.data.toList.take k)) ((x.data.toList.drop k).take n) = Ad.ha 1 (x.data.toList.take (k + n)) := by rw [Ad.ha_ha, htk]
      have hhb : Ad.hb (Ad.ha 1 (x.data.toList.take k)) (Ad.hb 1 0 (x.data.toList.take k)) ((x.data.toList.drop k).take n) = Ad.hb 1 0 (x.data.toList.take (k + n)) := by rw [Ad.hb_hb, htk]
      have hPC : (⟨((x.data.toList.drop k).take n).toArray⟩ : ByteArray).data.toList = (x.data.toList.drop k).take n := by simp
      have hPs : (⟨((x.data.toList.drop k).take n).toArray⟩ : ByteArray).size = ((x.data.toList.drop k).take n).length := rfl
      have AC := fun W => ADD.out (Ad.ha 1 (x.data.toList.take k)) (Ad.hb 1 0 (x.data.toList.take k)) ⟨((x.data.toList.drop k).take n).toArray⟩ W (Ad.ha_lt _ _) (Ad.hb_lt _ _ _) (by rw [hPs]; unfold maxLen; omega)
      rw [hPC, hha, hhb] at AC
      have OC := fun W => OF.out ⟨((x.data.toList.drop k).take n).toArray⟩ W (by rw [hPs]; unfold maxLen; omega)
      rw [hPC] at OC
      have JC := fun W => JN.out (Ad.sum (x.data.toList.take k)) (Ad.sum ((x.data.toList.drop k).take n)) ((x.data.toList.drop k).take n).length W (Ad.sum_lt _) (Ad.sum_lt _) (by unfold maxLen; omega)
      rw [hsum] at JC
      have hPz : ((⟨((x.data.toList.drop k).take n).toArray⟩ : ByteArray).size : Int) = (((x.data.toList.drop k).take n).length : Nat) := rfl
      have HAC := Lib.hid AC
      have HOC := Lib.hid OC
      have HJC := Lib.hid JC
      clear HR0 RD VA ADD OF JN htk hsum hha hhb hPC hPs AC OC JC R
      generalize ((x.data.toList.drop k).take n).length = pl at *
      generalize (⟨((x.data.toList.drop k).take n).toArray⟩ : ByteArray) = PC at *
      generalize hp4 : w4.heap.size = p at *
      go_wp2_with fail
      refine RDC.out.mono ?_
      rintro e w5 ⟨rfl, hb5⟩
      have R5 := Lib.hid (HK.out.next hb5)
      have c0 := R5.out.c0
      have c1 := R5.out.c1
      clear RDC hb5 HK
      go_wp2_with fail
      refine (HAC.out _).mono ?_
      rintro e w6 ⟨rfl, hb6⟩
      have R6 := Lib.hid (R5.out.next hb6)
      have k0 := R6.out.c0
      have k1 := R6.out.c1
      have y0 := R6.out.z0
      have y1 := R6.out.z1
      have R7 := Lib.hid (R6.out.put (k2 := k + n) (hp4 ▸ hpp))
      clear hb6 R5 c0 c1 HAC R6
      go_wp2_with fail
      refine (HOC.out _).mono ?_
      rintro e w8 ⟨rfl, hb8⟩
      have R8 := Lib.hid (R7.out.next hb8)
      clear hb8 R7 HOC k0 k1 y0 y1
      go_wp2_with fail
      refine (HJC.out _).mono ?_
      rintro e w9 ⟨rfl, hb9⟩
      have R9 := Lib.hid (R8.out.next hb9)
      clear hb9 R8 HJC
      go_wp2
      go_roundw
      case rel => exact ⟨k + n, by omega, rfl, by go_num, R9⟩
      case measure => simp [intOf]; omega
    · have htk : x.data.toList.take k = x.data.toList := List.take_of_length_le (by omega)
      have R := HK.out
      have c0 := R.c0
      have c1 := R.c1
      rw [htk] at c0 c1 ⊢
      have VC := Lib.hid (fun W => VA.out (Ad.ha 1 x.data.toList) (Ad.hb 1 0 x.data.toList) W (by have := Ad.ha_lt 1 x.data.toList; omega) (by have := Ad.hb_lt 1 0 x.data.toList; omega))
      have hnum : Ad.num (Ad.ha 1 x.data.toList) (Ad.hb 1 0 x.data.toList) = Ad.sum x.data.toList := rfl
      rw [hnum] at VC
      have OC := Lib.hid (fun W => OF.out x W (by unfold maxLen; omega))
      have HB := Lib.hid R.bel
      have hdec : decide ((k : Int) < (x.size : Int)) = false := by simp; omega
      clear HK HR0 RD VA ADD OF JN R hnum htk
      generalize Ad.sum x.data.toList = S at *
      go_wp2_with fail
      refine (VC.out _).mono ?_
      rintro e w6 ⟨rfl, hb6⟩
      have HB6 := Lib.hid (HB.out.trans (hb6.mono HB.out.size))
      clear VC hb6 HB
      go_wp2_with fail
      refine (OC.out _).mono ?_
      rintro e w7 ⟨rfl, hb7⟩
      have HB7 := Lib.hid (HB6.out.trans (hb7.mono HB6.out.size))
      clear hb7 HB6
      go_wp2_with fail
      refine (OC.out _).mono ?_
      rintro e w8 ⟨rfl, hb8⟩
      have HB8 := Lib.hid (HB7.out.trans (hb8.mono HB7.out.size))
      clear hb8 HB7 OC
      go_wp2
      go_ret
      exact ⟨rfl, HB8.out⟩
end Go.Proofs.YtdpplnjnkckocaaDoor
