/-
  CONTRACTS of the journal's gone, Save and Load on a disk that isn't armed.
-/
import Derived.Test.YtmlpkimbcjkbkaaGreatDoorDjM
import Derived.Test.YtmlpkimbcjkbkaaGreatDoorJOpen
namespace Go.Proofs.YtmlpkimbcjkbkaaGreatDoor
open Go.RowKit Go.Maps

variable {Fp : Nat → Prop} {w : World} {Bd : Nat} {d : DS} {m : Nat}
def goneE (d : DS) (s : ByteArray) : Int := if remE d s = 5 then 0 else remE d s
set_option maxHeartbeats 1000000 in
theorem gone_any (h : Dsk Fp w Bd d m) (s : ByteArray) (hs : s.size ≤ 100000000) :
    Calls Tryz.prog 20 #[.pointer (some ⟨Bd, 0, none⟩), .string s] w fun e w' => e = .returned (.int .i64 (goneE d s)) ∧ OpPost Fp w Bd (remD d s) m w' := by
  have RD := Lib.hid (rem_d h s (by omega))
  unfold goneE
  generalize remE d s = r at *
  generalize remD d s = D at *
  by_cases h5 : r = 5
  · subst h5
    go_enter Tryz.func20, Tryz.ntmps20
    go_wp2_with fail
    refine RD.out.mono ?_
    rintro e w1 ⟨rfl, h1⟩
    go_wp2
    go_ret
    exact ⟨rfl, h1⟩
  · rw [if_neg h5]
    have i5 : (r == 5) = false := by simpa using h5
    go_enter Tryz.func20, Tryz.ntmps20
    go_wp2_with fail
    refine RD.out.mono ?_
    rintro e w1 ⟨rfl, h1⟩
    go_wp2
    go_ret
    exact ⟨rfl, h1⟩
/-- What lies below the disk's blocks stays: the library's tables among it. -/
theorem Gl.oth {w' : World} (G : Gl w) {B : Nat} (hB : w.heap.size ≤ B) {Fp : Nat → Prop} (hf : ∀ k, Fp k → B ≤ k) {w1 : World} (h1 : Below w.heap.size w w1) (hO : Oth Fp w1 w') : Gl w' :=
  G.next (h1.trans (hO.below (fun k hk => Nat.le_trans hB (hf k hk)) h1.size))
theorem dec_len (n : Nat) (h : n ≤ 1000000) : (Lib.decDigits n).length ≤ 21 := by
  have := Lib.itoa_length_le (n : Int) (by omega) (by omega)
  rw [Lib.itoa_nonneg] at this
  exact this
theorem frame_size (t : List UInt8) (h : t.length ≤ 1000) : (frameL t).length ≤ t.length + 40 := by
  have := dec_len t.length (by omega)
  rw [frame_len]
  omega
def SavePost (Fp : Nat → Prop) (w : World) (Bd : Nat) (q : Int) (V : Option Nm) (m : Nat) (w' : World) : Prop := ∃ d', JS d' q V ∧ OpPost Fp w Bd d' m w'
set_option maxHeartbeats 4000000 in
set_option maxRecDepth 100000 in
/-- Save: the text's frame takes the place of what was kept, or there is no room and what was kept stays. -/
theorem save_js {w0 : World} {B : Nat} (G : Gl w0) (hw0 : Below w0.heap.size w0 w) (hB : w0.heap.size ≤ B) (h : Dsk (Fb B) w Bd d m) (hF : B ≤ w.heap.size) (hm : 100 ≤ m) {q : Int} {c : Option Nm} (J : JS d q c) (t : ByteArray) (ht : t.size ≤ 1000)
    (E : Int) (V : Option Nm) (hc : ((((frameL t.data.toList).length : Nat) : Int) ≤ q - lenC c ∧ E = 0 ∧ V = some (frameL t.data.toList)) ∨ (¬ (((frameL t.data.toList).length : Nat) : Int) ≤ q - lenC c ∧ E = 7 ∧ V = c)) :
    Calls Tryz.prog 10 #[.pointer (some ⟨Bd, 0, none⟩), .string t] w fun e w' => e = .returned (.int .i64 E) ∧ SavePost (Fb B) w Bd q V m w' := by
  have GN := Lib.hid (gone_any h sT (by decide))
  have hg0 : goneE d sT = 0 := by unfold goneE; rw [J.remT.1]; rfl
  rw [hg0, J.remT.2] at GN
  have hfl := frame_size t.data.toList (by simpa using ht)
  have htl : t.data.toList.length = t.size := by simp
  have hsz : (⟨(frameL t.data.toList).toArray⟩ : ByteArray).size = (frameL t.data.toList).length := rfl
  have FR := Lib.hid (fun w1 (h1 : Below w0.heap.size w0 w1) => frame_any t w1 (by omega) (G.next h1))
  have hll : (⟨(frameL t.data.toList).toArray⟩ : ByteArray).data.toList = frameL t.data.toList := by simp
  generalize frameL t.data.toList = FL at *
  generalize hFR : (⟨FL.toArray⟩ : ByteArray) = FB at *
  have HJ := Lib.hid J
  have HW := Lib.hid hw0
  clear h hw0 J G hg0
  rcases hc with ⟨hfit, rfl, rfl⟩ | ⟨hfit, rfl, rfl⟩
  · go_enter Tryz.func10, Tryz.ntmps10
    go_wp2_with fail
    refine GN.out.mono ?_
    rintro e w1 ⟨rfl, d1, o1⟩
    have O1 := Lib.hid o1
    have K1 := Lib.hid d1
    have F1 := Lib.hid (FR.out w1 (HW.out.trans ((o1.fb hF).mono hB)))
    clear GN d1 o1
    go_wp2_with fail
    refine F1.out.mono ?_
    rintro e w2 ⟨rfl, hb2⟩
    have d2 := K1.out.below hb2
    have O2 := Lib.hid (O1.out.trans (Oth.of_below hb2))
    have A2 := Lib.hid (append_d d2 (O2.out.up (Fb_up hF)) sT FB (by decide) (by omega) hm)
    rw [((HJ.out.app (t := FB) (b := w2.heap.size) d2.fresh (by omega)).1 (by omega)).1] at A2
    clear F1 hb2 O1 K1 d2
    go_wp2_with fail
    refine A2.out.mono ?_
    rintro e w3 ⟨rfl, b, hb, d3, o3⟩
    have T3 := ((HJ.out.app (t := FB) hb (by omega)).1 (by omega)).2
    rw [hll] at T3
    generalize appD d sT FB b = D3 at *
    have O3 := Lib.hid (O2.out.trans o3)
    have S3 := Lib.hid (sync_d d3 sT (by decide))
    rw [T3.syn.1] at S3
    have T4 := T3.syn.2
    generalize synD D3 sT = D4 at *
    have HT4 := Lib.hid T4
    clear A2 d3 o3 O2 hb T3 T4
    go_wp2_with fail
    refine S3.out.mono ?_
    rintro e w4 ⟨rfl, d4, o4⟩
    have O4 := Lib.hid (O3.out.trans o4)
    have R4 := Lib.hid (ren_d d4 sT sJ (by decide) (by decide))
    rw [HT4.out.ren.1] at R4
    have J5 := HT4.out.ren.2
    generalize renD D4 sT sJ = D5 at *
    have HJ5 := Lib.hid J5
    clear S3 d4 o4 O3 J5
    go_wp2_with fail
    refine R4.out.mono ?_
    rintro e w5 ⟨rfl, d5, o5⟩
    have O5 := Lib.hid (O4.out.trans o5)
    have Y5 := Lib.hid (sdir_d d5 (O5.out.up (Fb_up hF)))
    rw [HJ5.out.sdir.1] at Y5
    clear R4 d5 o5 O4
    go_wp2_with fail
    refine Y5.out.mono ?_
    rintro e w6 ⟨rfl, d6, o6⟩
    have P6 : Hid (SavePost (Fb B) w Bd q (some FL) m w6) := Lib.hid ⟨_, HJ5.out.sdir.2, d6, O5.out.trans o6⟩
    clear Y5 d6 o6 O5
    go_wp2
    go_ret
    exact ⟨rfl, P6.out⟩
  · go_enter Tryz.func10, Tryz.ntmps10
    go_wp2_with fail
    refine GN.out.mono ?_
    rintro e w1 ⟨rfl, d1, o1⟩
    have O1 := Lib.hid o1
    have K1 := Lib.hid d1
    have F1 := Lib.hid (FR.out w1 (HW.out.trans ((o1.fb hF).mono hB)))
    clear GN d1 o1
    go_wp2_with fail
    refine F1.out.mono ?_
    rintro e w2 ⟨rfl, hb2⟩
    have d2 := K1.out.below hb2
    have O2 := Lib.hid (O1.out.trans (Oth.of_below hb2))
    have A2 := Lib.hid (append_d d2 (O2.out.up (Fb_up hF)) sT FB (by decide) (by omega) hm)
    rw [((HJ.out.app (t := FB) (b := w2.heap.size) d2.fresh (by omega)).2 (by omega)).1] at A2
    clear F1 hb2 O1 K1 d2
    go_wp2_with fail
    refine A2.out.mono ?_
    rintro e w3 ⟨rfl, b, hb, d3, o3⟩
    rw [((HJ.out.app (t := FB) hb (by omega)).2 (by omega)).2] at d3
    have P3 := Lib.hid (show SavePost (Fb B) w Bd q _ m w3 from ⟨_, HJ.out, d3, O2.out.trans o3⟩)
    clear A2 d3 o3 O2 hb
    go_wp2
    go_ret
    exact ⟨rfl, P3.out⟩
set_option maxHeartbeats 2000000 in
set_option maxRecDepth 100000 in
theorem load_none (h : Dsk Fp w Bd d m) {q : Int} (J : JS d q none) :
    Calls Tryz.prog 11 #[.pointer (some ⟨Bd, 0, none⟩)] w fun e w' => e = .returned (.tuple #[.string ⟨#[]⟩, .int .i64 5]) ∧ Below w.heap.size w w' := by
  have SZ := Lib.hid (size_d h sJ (by decide))
  rw [sJ_list, J.size.1, J.size.2] at SZ
  rw [lenC_none, errC_none] at SZ
  clear h J
  go_enter Tryz.func11, Tryz.ntmps11
  go_wp2_with fail
  refine SZ.out.mono ?_
  rintro e w1 ⟨rfl, rfl⟩
  go_wp2
  refine bodyPost_ret (results_tmp2 rfl _ _ _) rfl ?_
  exact ⟨rfl, Below.refl _ _⟩
set_option maxHeartbeats 2000000 in
set_option maxRecDepth 100000 in
theorem load_some (G : Gl w) (h : Dsk Fp w Bd d m) {q : Int} {t : ByteArray} (ht : t.size ≤ 1000) (J : JS d q (some (frameL t.data.toList))) :
    Calls Tryz.prog 11 #[.pointer (some ⟨Bd, 0, none⟩)] w fun e w' => e = .returned (.tuple #[.string t, .int .i64 0]) ∧ Below w.heap.size w w' := by
  have hfl := frame_size t.data.toList (by simpa using ht)
  have htl : t.data.toList.length = t.size := by simp
  have SZ := Lib.hid (size_d h sJ (by decide))
  rw [sJ_list, J.size.1, J.size.2] at SZ
  have RD := Lib.hid (read_d h sJ (by decide) 0 ((frameL t.data.toList).length : Nat) (by omega) (by omega))
  rw [J.read.1, J.read.2] at RD
  have OP := Lib.hid (fun w1 (h1 : Below w.heap.size w w1) => open_any ⟨(frameL t.data.toList).toArray⟩ w1 (by show (frameL t.data.toList).length ≤ 100000; omega) (G.next h1))
  have hop : openL (⟨(frameL t.data.toList).toArray⟩ : ByteArray).data.toList = (t.data.toList, 0) := by
    rw [show (⟨(frameL t.data.toList).toArray⟩ : ByteArray).data.toList = frameL t.data.toList by simp]
    exact open_back _ (by omega)
  rw [hop] at OP
  have htb : (⟨t.data.toList.toArray⟩ : ByteArray) = t := WideShapes.bytes_inj (by simp)
  simp only [htb] at OP
  rw [lenC_some, errC_some] at SZ
  generalize hB0 : (⟨(frameL t.data.toList).toArray⟩ : ByteArray) = FB at *
  generalize (frameL t.data.toList).length = n at *
  clear h J G hop htb hB0
  go_enter Tryz.func11, Tryz.ntmps11
  go_wp2_with fail
  refine SZ.out.mono ?_
  rintro e w1 ⟨rfl, rfl⟩
  go_wp2_with fail
  refine RD.out.mono ?_
  rintro e w2 ⟨rfl, hb2⟩
  have O2 := Lib.hid (OP.out w2 hb2)
  have HB2 := Lib.hid hb2
  clear RD SZ OP hb2
  go_wp2_with fail
  refine O2.out.mono ?_
  rintro e w3 ⟨rfl, hb3⟩
  have HB3 := Lib.hid (HB2.out.trans (hb3.mono HB2.out.size))
  clear O2 hb3 HB2
  go_wp2
  refine bodyPost_ret (results_tmp2 rfl _ _ _) rfl ?_
  exact ⟨rfl, HB3.out⟩
end Go.Proofs.YtmlpkimbcjkbkaaGreatDoor
