/-
  MATHEMATICS of Save on a disk that may die: behind a crash the journal's file is the one ahead or the new one, whole.
-/
import Derived.Test.YtjlkdglbnfifeaaGreatDoorDjDrop
namespace Go.Proofs.YtjlkdglbnfifeaaGreatDoor
open Go.RowKit Go.Maps

def JF (fs : Nat → Nm × Nm) (M : Dir) : Option Nm → Prop
  | none => getD M nJ = none
  | some F => ∃ b, getD M nJ = some b ∧ fs b = (F, F)
def NJTD (M : Dir) : Prop := ∀ p ∈ M, p.1 = nJ ∨ p.1 = nT
theorem dec_eq (d : DS) : decD d = { d with left := (decD d).left } := by unfold decD; split <;> rfl
theorem JF.fsOf {fs gs : Nat → Nm × Nm} {M : Dir} {c : Option Nm} (h : JF fs M c) (hg : ∀ n b, (n, b) ∈ M → gs b = fs b) : JF gs M c := by
  cases c with
  | none => exact h
  | some F =>
    obtain ⟨b, h1, h2⟩ := h
    exact ⟨b, h1, (hg _ _ (getD_mem h1)).trans h2⟩
theorem JF.names {fs : Nat → Nm × Nm} {M M' : Dir} {c : Option Nm} (h : JF fs M c) (he : getD M' nJ = getD M nJ) : JF fs M' c := by
  cases c with
  | none => exact he.trans h
  | some F =>
    obtain ⟨b, h1, h2⟩ := h
    exact ⟨b, he.trans h1, h2⟩
theorem frame_sizeL (t : List UInt8) (h : t.length ≤ 3000) : (frameL t).length ≤ t.length + 40 := by
  have := dec_len t.length (by omega)
  rw [frame_len]
  omega
structure Kp (d : DS) (c : Option Nm) : Prop where
  dead : d.dead = false
  quota : d.quota = 1048576
  nn : NJTD d.now
  ns : NJTD d.safe
  jn : JF d.fs d.now c
  js : JF d.fs d.safe c
  len : lenC c ≤ 3100
structure Xd (d : DS) (c c' : Option Nm) : Prop where
  dead : d.dead = true
  quota : d.quota = 1048576
  nn : NJTD d.now
  ns : NJTD d.safe
  jn : JF d.fs d.now c ∨ JF d.fs d.now c'
  js : JF d.fs d.safe c ∨ JF d.fs d.safe c'
theorem Kp.new : Kp (newDS 1048576) none := ⟨rfl, rfl, (fun _ h => by cases h), (fun _ h => by cases h), rfl, rfl, Nat.zero_le _⟩
theorem Kp.die {d : DS} {c : Option Nm} (h : Kp d c) (c' : Option Nm) : Xd (dieD d) c c' := ⟨rfl, h.quota, h.nn, h.ns, .inl h.jn, .inl h.js⟩
theorem Kp.arm {d : DS} {c : Option Nm} (h : Kp d c) (n : Int) : Kp (armDS d n) c := by
  unfold armDS; rw [h.dead]; exact ⟨rfl, h.quota, h.nn, h.ns, h.jn, h.js, h.len⟩
theorem Xd.arm {d : DS} {c c' : Option Nm} (h : Xd d c c') (n : Int) : armDS d n = d := by
  unfold armDS; rw [h.dead]; rfl
theorem kp_gone {d : DS} {c : Option Nm} (h : Kp d c) (hs : Srt d.now) (c' : Option Nm) :
    (goneE d sT = 0 ∧ Kp (remD d sT) c ∧ getD (remD d sT).now nT = none) ∨ (goneE d sT = 8 ∧ Xd (remD d sT) c c') := by
  obtain ⟨h1, h2⟩ := live_find (d := d) (n := sT.data.toList) h.dead
  cases hg : getD d.now sT.data.toList with
  | none =>
    rw [hg] at h1 h2
    have hr : remE d sT = 5 := by unfold remE; rw [h2]; rfl
    have hd : remD d sT = d := by unfold remD; rw [h1]
    rw [hd]
    exact .inl ⟨by unfold goneE; rw [hr]; rfl, h, hg⟩
  | some b =>
    rw [hg] at h1 h2
    by_cases hl : d.left = 0
    · have hr : remE d sT = 8 := by unfold remE; rw [h2]; simp [hl]
      have hd : remD d sT = dieD d := by unfold remD; rw [h1]; simp [hl]
      rw [hd]
      exact .inr ⟨by unfold goneE; rw [hr]; rfl, h.die c'⟩
    · have hr : remE d sT = 0 := by unfold remE; rw [h2]; simp [hl]
      have hd : remD d sT = delF (decD d) sT.data.toList := by unfold remD; rw [h1]; simp [hl]
      rw [hd, dec_eq]
      refine .inl ⟨by unfold goneE; rw [hr]; rfl, ⟨h.dead, h.quota, ?_, h.ns, ?_, h.js, h.len⟩, getD_del_same _ _⟩
      · intro p hp
        exact h.nn p (mem_delD.1 hp).1
      · exact h.jn.names (getD_del_other _ hs nJneT)
theorem kp_one {d : DS} {c : Option Nm} (h : Kp d c) (hs : Srt d.now) (hT : getD d.now nT = none) : d.now.length ≤ 1 ∧ usedD d ≤ 3100 := by
  have hall : ∀ p ∈ d.now, p.1 = nJ := by
    intro p hp
    rcases h.nn p hp with e | e
    · exact e
    · exact absurd e (getD_none hT p hp)
  have hlen := h.len
  cases hn : d.now with
  | nil => simp [usedD, hn]
  | cons p r =>
    have hr : r = [] := by
      cases r with
      | nil => rfl
      | cons q r =>
        exfalso
        rw [hn] at hs hall
        have h1 : p.1 < q.1 := (List.pairwise_cons.1 hs).1 q (by simp)
        rw [hall p (by simp), hall q (by simp)] at h1
        exact absurd h1 (by decide)
    subst hr
    refine ⟨by simp, ?_⟩
    have hj := h.jn
    have hpe : p = (nJ, p.2) := by rw [← hall p (by rw [hn]; simp)]
    cases c with
    | none => exact absurd (hall p (by rw [hn]; simp)) (getD_none hj p (by rw [hn]; simp))
    | some F =>
      obtain ⟨b, h1, h2⟩ := hj
      rw [hn, hpe] at h1
      have hb : p.2 = b := by simpa [getD] using h1
      rw [lenC_some] at hlen
      simp [usedD, hn, lenNow, hb, h2]
      exact hlen
structure Tp (d : DS) (c : Option Nm) (b : Nat) (F S : Nm) : Prop where
  dead : d.dead = false
  quota : d.quota = 1048576
  nn : NJTD d.now
  ns : NJTD d.safe
  jn : JF d.fs d.now c
  js : JF d.fs d.safe c
  at_ : getD d.now nT = some b
  file : d.fs b = (F, S)
  other : ∀ n, (n, b) ∈ d.now → n = nT
  others : ∀ n, (n, b) ∉ d.safe
theorem Tp.die {d : DS} {c : Option Nm} {b : Nat} {F S : Nm} (h : Tp d c b F S) (c' : Option Nm) : Xd (dieD d) c c' := ⟨rfl, h.quota, h.nn, h.ns, .inl h.jn, .inl h.js⟩
theorem jf_upd {fs : Nat → Nm × Nm} {M : Dir} {c : Option Nm} {b : Nat} {x : Nm × Nm} (h : JF fs M c) (hb : ∀ n, (n, b) ∈ M → n = nT) : JF (upd fs b x) M c := by
  cases c with
  | none => exact h
  | some F =>
    obtain ⟨b0, h1, h2⟩ := h
    refine ⟨b0, h1, ?_⟩
    rw [upd_other _ _ (fun e => ?_)]
    · exact h2
    · exact nJneT (hb nJ (by rw [← e]; exact getD_mem h1))
theorem newF_tp {d : DS} {c : Option Nm} (h : Kp d c) (hs : Srt d.now) {b : Nat} (hb : ¬ d.Has b) (t : Nm) (l : Int) :
    Tp (newF { d with left := l } nT b t) c b t [] := by
  have nb : ∀ n, (n, b) ∉ d.now := fun n hm => hb ⟨n, .inl hm⟩
  have nb2 : ∀ n, (n, b) ∉ d.safe := fun n hm => hb ⟨n, .inr hm⟩
  refine ⟨h.dead, h.quota, ?_, h.ns, ?_, ?_, getD_put_same _ hs _ _, by simp [newF, upd_same], ?_, nb2⟩
  · intro p hp
    rcases mem_putD.1 hp with e | ⟨e, _⟩
    · rw [e]; exact .inr rfl
    · exact h.nn p e
  · exact (jf_upd h.jn (fun n hm => absurd hm (nb n))).names (getD_put_other _ hs _ nJneT)
  · exact jf_upd h.js (fun n hm => absurd hm (nb2 n))
  · intro n hm
    rcases mem_putD.1 hm with e | ⟨e, _⟩
    · exact (Prod.mk.inj e).1
    · exact absurd e (nb n)
theorem kp_app {d : DS} {c : Option Nm} (h : Kp d c) (hs : Srt d.now) (hT : getD d.now nT = none) {b : Nat} (hb : ¬ d.Has b) {t : ByteArray} (ht : t.size ≤ 3100) (c' : Option Nm) :
    (appE d sT t = 0 ∧ Tp (appD d sT t b) c b t.data.toList []) ∨ (appE d sT t = 8 ∧ Xd (appD d sT t b) c c') := by
  obtain ⟨o1, o2⟩ := kp_one h hs hT
  have hr : roomE d sT.data.toList t.size = 0 := by
    rw [sT_list, roomE_low _ _ _ (by rw [hT]; simp; omega), h.quota, if_neg (by omega)]
    have hh : hasL d nT = 0 := by unfold hasL; rw [hT]
    rw [hh, if_neg (by omega)]
  by_cases hl : d.left = 0
  · refine .inr ⟨by unfold appE; rw [h.dead, ok_sT, hr]; simp [hl], ?_⟩
    have hD : appD d sT t b = newF (dieD d) nT b t.data.toList := by
      unfold appD
      rw [h.dead, ok_sT, hr]
      simp only [Bool.false_eq_true, if_false, ne_eq, not_true, if_pos hl, reduceCtorEq]
      unfold wrD
      show (match getD (dieD d).now nT with | some c => appF (dieD d) c t.data.toList | none => newF (dieD d) nT b t.data.toList) = _
      rw [show getD (dieD d).now nT = none from hT]
    have T := newF_tp h hs hb t.data.toList d.left
    rw [hD]
    exact ⟨rfl, T.quota, T.nn, T.ns, .inl T.jn, .inl T.js⟩
  · refine .inl ⟨by unfold appE; rw [h.dead, ok_sT, hr]; simp [hl], ?_⟩
    have hD : appD d sT t b = newF (decD d) nT b t.data.toList := by
      unfold appD
      rw [h.dead, ok_sT, hr]
      simp only [Bool.false_eq_true, if_false, ne_eq, not_true, if_neg hl, reduceCtorEq]
      unfold wrD
      show (match getD (decD d).now nT with | some c => appF (decD d) c t.data.toList | none => newF (decD d) nT b t.data.toList) = _
      rw [dec_now, show getD d.now nT = none from hT]
    rw [hD, dec_eq]
    exact newF_tp h hs hb t.data.toList _
theorem kp_syn {d : DS} {c : Option Nm} {b : Nat} {F S : Nm} (h : Tp d c b F S) (c' : Option Nm) :
    (synE d sT = 0 ∧ Tp (synD d sT) c b F F) ∨ (synE d sT = 8 ∧ Xd (synD d sT) c c') := by
  obtain ⟨h1, h2⟩ := live_find (d := d) (n := nT) h.dead
  rw [h.at_] at h1 h2
  by_cases hl : d.left = 0
  · refine .inr ⟨by unfold synE; rw [sT_list, h2]; simp [hl], ?_⟩
    have hD : synD d sT = dieD d := by unfold synD; rw [sT_list, h1]; simp [hl]
    rw [hD]; exact h.die c'
  · refine .inl ⟨by unfold synE; rw [sT_list, h2]; simp [hl], ?_⟩
    have hD : synD d sT = synF (decD d) b := by unfold synD; rw [sT_list, h1]; simp [hl]
    rw [hD, dec_eq]
    exact ⟨h.dead, h.quota, h.nn, h.ns, jf_upd h.jn h.other, jf_upd h.js (fun n hm => absurd hm (h.others n)), h.at_, by simp [synF, upd_same, h.file], h.other, h.others⟩
structure Rn (d : DS) (c c' : Option Nm) : Prop where
  dead : d.dead = false
  quota : d.quota = 1048576
  nn : NJTD d.now
  ns : NJTD d.safe
  jn : JF d.fs d.now c'
  js : JF d.fs d.safe c
theorem kp_ren {d : DS} {c : Option Nm} {b : Nat} {F : Nm} (h : Tp d c b F F) (hs : Srt d.now) :
    (renE d sT sJ = 0 ∧ Rn (renD d sT sJ) c (some F)) ∨ (renE d sT sJ = 8 ∧ Xd (renD d sT sJ) c (some F)) := by
  obtain ⟨h1, h2⟩ := live_find (d := d) (n := nT) h.dead
  rw [h.at_] at h1 h2
  by_cases hl : d.left = 0
  · refine .inr ⟨by unfold renE; rw [sT_list, h2, ok_sJ]; simp [hl], ?_⟩
    have hD : renD d sT sJ = dieD d := by unfold renD; rw [sT_list, h1, ok_sJ]; simp [hl]
    rw [hD]; exact h.die _
  · refine .inl ⟨by unfold renE; rw [sT_list, h2, ok_sJ]; simp [hl], ?_⟩
    have hD : renD d sT sJ = renF (decD d) nT nJ b := by unfold renD; rw [sT_list, h1, ok_sJ]; simp only [hl, Bool.true_eq_false, if_false]; rfl
    rw [hD, dec_eq]
    refine ⟨h.dead, h.quota, ?_, h.ns, ⟨b, getD_put_same _ (hs.del _) _ _, h.file⟩, h.js⟩
    intro p hp
    rcases mem_putD.1 hp with e | ⟨e, _⟩
    · rw [e]; exact .inl rfl
    · exact h.nn p (mem_delD.1 e).1
theorem kp_sd {d : DS} {c c' : Option Nm} (h : Rn d c c') (hc : lenC c' ≤ 3100) :
    (sdE d = 0 ∧ Kp (sdD d) c') ∨ (sdE d = 8 ∧ Xd (sdD d) c c') := by
  by_cases hl : d.left = 0
  · refine .inr ⟨by unfold sdE; rw [h.dead]; simp [hl], ?_⟩
    have hD : sdD d = dieD d := by unfold sdD; rw [h.dead]; simp [hl]
    rw [hD]; exact ⟨rfl, h.quota, h.nn, h.ns, .inr h.jn, .inl h.js⟩
  · refine .inl ⟨by unfold sdE; rw [h.dead]; simp [hl], ?_⟩
    have hD : sdD d = sdirF (decD d) := by unfold sdD; rw [h.dead]; simp [hl]
    rw [hD, dec_eq]
    exact ⟨h.dead, h.quota, h.nn, h.nn, h.jn, h.jn, hc⟩
theorem crN_same (F : Nm) (k : Nat) : crN F F k = F := by
  unfold crN
  rw [if_pos (by simp)]
  simp
theorem crTo_fs {d : DS} {ks : List Int} {b : Nat} {F : Nm} (h : d.fs b = (F, F)) : ∀ i, (crTo d ks i).fs b = (F, F)
  | 0 => h
  | i + 1 => by
    have ih := crTo_fs (ks := ks) h i
    unfold crTo
    split
    · rename_i p _
      unfold crF
      simp only []
      by_cases e : b = p.2
      · rw [e, upd_same, ← e, ih]
        simp [crN_same]
      · rw [upd_other _ _ e, ih]
    · exact ih
theorem crTo_quota (d : DS) (ks : List Int) : ∀ i, (crTo d ks i).quota = d.quota
  | 0 => rfl
  | i + 1 => by
    unfold crTo
    split
    · exact crTo_quota d ks i
    · exact crTo_quota d ks i
theorem jf_crash {d : DS} {ks : List Int} {M : Dir} {c : Option Nm} (i : Nat) (h : JF d.fs M c) : JF (crTo d ks i).fs M c := by
  cases c with
  | none => exact h
  | some F =>
    obtain ⟨b, h1, h2⟩ := h
    exact ⟨b, h1, crTo_fs h2 i⟩
theorem kp_crash {d : DS} {c c' : Option Nm} (h : Xd d c c') (hc : lenC c ≤ 3100) (hc' : lenC c' ≤ 3100) (ks : List Int) (nm : Bool) : Kp (crashD d ks nm) c ∨ Kp (crashD d ks nm) c' := by
  have main : ∀ d1 : DS, NJTD d1.now → d1.quota = 1048576 → ∀ c1, lenC c1 ≤ 3100 → JF d1.fs d1.now c1 → ∀ i, Kp { crTo d1 ks i with safe := (crTo d1 ks i).now, dead := false, left := -1 } c1 := by
    intro d1 hn hq c1 hl hj i
    have e := (crTo_now d1 ks i).1
    have J : JF (crTo d1 ks i).fs (crTo d1 ks i).now c1 := by rw [e]; exact jf_crash i hj
    have N : NJTD (crTo d1 ks i).now := by rw [e]; exact hn
    exact ⟨rfl, (crTo_quota d1 ks i).trans hq, N, N, J, J, hl⟩
  unfold crashD
  cases nm
  · rcases h.js with j | j
    · exact .inl (main { d with now := d.safe } h.ns h.quota c hc j _)
    · exact .inr (main { d with now := d.safe } h.ns h.quota c' hc' j _)
  · rcases h.jn with j | j
    · exact .inl (main d h.nn h.quota c hc j _)
    · exact .inr (main d h.nn h.quota c' hc' j _)
theorem Kp.size {d : DS} {c : Option Nm} (h : Kp d c) : sizeR d nJ = lenC c ∧ findE d nJ = errC c := by
  obtain ⟨h1, h2⟩ := live_find (d := d) (n := nJ) h.dead
  have hj := h.jn
  unfold sizeR
  rw [h1, h2]
  cases c with
  | none => rw [show getD d.now nJ = none from hj]; exact ⟨rfl, rfl⟩
  | some F => obtain ⟨b, k1, k2⟩ := hj; rw [k1]; simp [lenC, k2, errC]
theorem Kp.read {d : DS} {F : Nm} (h : Kp d (some F)) : readS d sJ 0 F.length = ⟨F.toArray⟩ ∧ readE d sJ 0 F.length = 0 := by
  obtain ⟨h1, h2⟩ := live_find (d := d) (n := nJ) h.dead
  obtain ⟨b, hg, k2⟩ := h.jn
  rw [hg] at h1 h2
  constructor
  · unfold readS
    rw [sJ_list, h1]
    simp only []
    rw [if_neg (by omega), k2]
    simp
  · unfold readE
    rw [sJ_list, h2]
    simp
variable {Fp : Nat → Prop} {w : World} {Bd : Nat} {d : DS} {m : Nat}
set_option maxHeartbeats 2000000 in
set_option maxRecDepth 100000 in
theorem loadk_none (h : Dsk Fp w Bd d m) (J : Kp d none) :
    Calls Tryz.prog 13 #[.pointer (some ⟨Bd, 0, none⟩)] w fun e w' => e = .returned (.tuple #[.string ⟨#[]⟩, .int .i64 5]) ∧ Below w.heap.size w w' := by
  have SZ := Lib.hid (size_d h sJ (by decide))
  rw [sJ_list, J.size.1, J.size.2] at SZ
  rw [lenC_none, errC_none] at SZ
  clear h J
  go_enter Tryz.func13, Tryz.ntmps13
  go_wp2_with fail
  refine SZ.out.mono ?_
  rintro e w1 ⟨rfl, rfl⟩
  go_wp2
  refine bodyPost_ret (results_tmp2 rfl _ _ _) rfl ?_
  exact ⟨rfl, Below.refl _ _⟩
set_option maxHeartbeats 2000000 in
set_option maxRecDepth 100000 in
theorem loadk_some (G : Gl w) (h : Dsk Fp w Bd d m) {t : ByteArray} (ht : t.size ≤ 3000) (J : Kp d (some (frameL t.data.toList))) :
    Calls Tryz.prog 13 #[.pointer (some ⟨Bd, 0, none⟩)] w fun e w' => e = .returned (.tuple #[.string t, .int .i64 0]) ∧ Below w.heap.size w w' := by
  have hfl := frame_sizeL t.data.toList (by simpa using ht)
  have htl : t.data.toList.length = t.size := by simp
  have SZ := Lib.hid (size_d h sJ (by decide))
  rw [sJ_list, J.size.1, J.size.2] at SZ
  have RD := Lib.hid (read_d h sJ (by decide) 0 ((frameL t.data.toList).length : Nat) (by omega) (by omega))
  rw [J.read.1, J.read.2] at RD
  have OP := Lib.hid (fun w1 (h1 : Below w.heap.size w w1) => open_any ⟨(frameL t.data.toList).toArray⟩ w1 (by show (frameL t.data.toList).length ≤ 100000; omega) (G.next h1))
  have hop : openL (⟨(frameL t.data.toList).toArray⟩ : ByteArray).data.toList = (t.data.toList, 0) := by
    rw [show (⟨(frameL t.data.toList).toArray⟩ : ByteArray).data.toList = frameL t.data.toList by simp]
    exact open_back _ (by omega)
  rw [hop] at OP
  have htb : (⟨t.data.toList.toArray⟩ : ByteArray) = t := WideShapes.bytes_inj (by simp)
  simp only [htb] at OP
  rw [lenC_some, errC_some] at SZ
  generalize hB0 : (⟨(frameL t.data.toList).toArray⟩ : ByteArray) = FB at *
  generalize (frameL t.data.toList).length = n at *
  clear h J G hop htb hB0
  go_enter Tryz.func13, Tryz.ntmps13
  go_wp2_with fail
  refine SZ.out.mono ?_
  rintro e w1 ⟨rfl, rfl⟩
  go_wp2_with fail
  refine RD.out.mono ?_
  rintro e w2 ⟨rfl, hb2⟩
  have O2 := Lib.hid (OP.out w2 hb2)
  have HB2 := Lib.hid hb2
  clear RD SZ OP hb2
  go_wp2_with fail
  refine O2.out.mono ?_
  rintro e w3 ⟨rfl, hb3⟩
  have HB3 := Lib.hid (HB2.out.trans (hb3.mono HB2.out.size))
  clear O2 hb3 HB2
  go_wp2
  refine bodyPost_ret (results_tmp2 rfl _ _ _) rfl ?_
  exact ⟨rfl, HB3.out⟩
def KeepPost (Fp : Nat → Prop) (w : World) (Bd : Nat) (m : Nat) (c c' : Option Nm) (e : Ending) (w' : World) : Prop := ∃ v : Int, e = .returned (.int .i64 v) ∧ ∃ d', ((v = 0 ∧ Kp d' c') ∨ (v = 8 ∧ Xd d' c c')) ∧ OpPost Fp w Bd d' m w'
set_option maxHeartbeats 31000000 in
set_option maxRecDepth 100000 in
/-- Save, whatever the disk dies at: what is there is the one ahead, or the new one. -/
theorem save_keep {w0 : World} {B : Nat} (G : Gl w0) (hw0 : Below w0.heap.size w0 w) (hB : w0.heap.size ≤ B) (hFp : ∀ k, Fp k → B ≤ k) (hUp : Up Fp w) (h : Dsk Fp w Bd d m) (hF : B ≤ w.heap.size) (hm : 100 ≤ m) {c : Option Nm} (J : Kp d c) (t : ByteArray) (ht : t.size ≤ 3000) :
    Calls Tryz.prog 10 #[.pointer (some ⟨Bd, 0, none⟩), .string t] w (KeepPost Fp w Bd m c (some (frameL t.data.toList))) := by
  have GN := Lib.hid (gone_any h sT (by decide))
  have K1 := kp_gone J h.srt (some (frameL t.data.toList))
  have hfl := frame_sizeL t.data.toList (by simp; omega)
  have htl : t.data.toList.length = t.size := by simp
  have hsz : (⟨(frameL t.data.toList).toArray⟩ : ByteArray).size = (frameL t.data.toList).length := rfl
  have hll : (⟨(frameL t.data.toList).toArray⟩ : ByteArray).data.toList = frameL t.data.toList := by simp
  have FR := Lib.hid (fun w1 (h1 : Below w0.heap.size w0 w1) => frame_any t w1 (by omega) (G.next h1))
  have hc' : lenC (some (frameL t.data.toList)) ≤ 3100 := by rw [lenC_some]; omega
  generalize frameL t.data.toList = FL at *
  generalize (⟨FL.toArray⟩ : ByteArray) = FB at *
  have HW := Lib.hid hw0
  clear h hw0 J G
  generalize remD d sT = D1 at *
  generalize goneE d sT = E1 at *
  rcases K1 with ⟨rfl, K1, n1⟩ | ⟨rfl, X1⟩
  · have HK := Lib.hid (And.intro K1 n1)
    clear K1 n1
    go_enter Tryz.func10, Tryz.ntmps10
    go_wp2_with fail
    refine GN.out.mono ?_
    rintro e w1 ⟨rfl, d1, o1⟩
    have O1 := Lib.hid o1
    have K1 := Lib.hid d1
    have F1 := Lib.hid (FR.out w1 (HW.out.trans ((o1.below hFp hF).mono hB)))
    clear GN d1 o1
    go_wp2_with fail
    refine F1.out.mono ?_
    rintro e w2 ⟨rfl, hb2⟩
    have d2 := K1.out.below hb2
    have S2 := Lib.hid d2.srt
    have FH := Lib.hid d2.fresh
    have O2 := Lib.hid (O1.out.trans (Oth.of_below hb2))
    have A2 := Lib.hid (append_d d2 (O2.out.up hUp) sT FB (by decide) (by omega) hm)
    have U2 := Lib.hid (fun b (hb : ¬ D1.Has b) => kp_app HK.out.1 S2.out HK.out.2 hb (t := FB) (by omega) (some FL))
    clear F1 hb2 O1 K1 d2
    generalize appE D1 sT FB = E2 at *
    by_cases z2 : E2 = 0
    · subst z2
      go_wp2_with fail
      refine A2.out.mono ?_
      rintro e w3 ⟨rfl, b, hb, d3, o3⟩
      have T3 : Hid (Tp (appD D1 sT FB b) c b FL []) := by
        refine Lib.hid ?_
        rcases U2.out b hb with ⟨_, h2⟩ | ⟨h2, _⟩
        · rw [hll] at h2; exact h2
        · cases h2
      generalize appD D1 sT FB b = D3 at *
      have O3 := Lib.hid (O2.out.trans o3)
      have S3 := Lib.hid (sync_d d3 sT (by decide))
      have Y3 := kp_syn T3.out (some FL)
      generalize synD D3 sT = D4 at *
      generalize synE D3 sT = E3 at *
      clear A2 d3 o3 O2 U2 hb T3
      rcases Y3 with ⟨rfl, T4⟩ | ⟨rfl, X4⟩
      · have J4 := Lib.hid T4
        clear T4
        go_wp2_with fail
        refine S3.out.mono ?_
        rintro e w4 ⟨rfl, d4, o4⟩
        have O4 := Lib.hid (O3.out.trans o4)
        have R4 := Lib.hid (ren_d d4 sT sJ (by decide) (by decide))
        have Y4 := kp_ren J4.out d4.srt
        generalize renD D4 sT sJ = D5 at *
        generalize renE D4 sT sJ = E4 at *
        clear S3 d4 o4 O3 J4
        rcases Y4 with ⟨rfl, R5⟩ | ⟨rfl, X5⟩
        · have J5 := Lib.hid R5
          clear R5
          go_wp2_with fail
          refine R4.out.mono ?_
          rintro e w5 ⟨rfl, d5, o5⟩
          have O5 := Lib.hid (O4.out.trans o5)
          have Y5 := Lib.hid (sdir_d d5 (O5.out.up hUp))
          have Q5 := Lib.hid (kp_sd J5.out hc')
          clear R4 d5 o5 O4
          go_wp2_with fail
          refine Y5.out.mono ?_
          rintro e w6 ⟨rfl, d6, o6⟩
          have P6 : Hid (KeepPost Fp w Bd m c (some FL) (.returned (.int .i64 (sdE D5))) w6) := Lib.hid ⟨_, rfl, _, Q5.out, d6, O5.out.trans o6⟩
          clear Y5 d6 o6 O5 Q5 J5
          go_wp2
          go_ret
          exact P6.out
        · go_wp2_with fail
          refine R4.out.mono ?_
          rintro e w5 ⟨rfl, d5, o5⟩
          have P6 : Hid (KeepPost Fp w Bd m c (some FL) (.returned (.int .i64 8)) w5) := Lib.hid ⟨_, rfl, _, .inr ⟨rfl, X5⟩, d5, O4.out.trans o5⟩
          clear R4 d5 o5 O4 X5
          go_wp2
          go_ret
          exact P6.out
      · go_wp2_with fail
        refine S3.out.mono ?_
        rintro e w4 ⟨rfl, d4, o4⟩
        have P6 : Hid (KeepPost Fp w Bd m c (some FL) (.returned (.int .i64 8)) w4) := Lib.hid ⟨_, rfl, _, .inr ⟨rfl, X4⟩, d4, O3.out.trans o4⟩
        clear S3 d4 o4 O3 X4
        go_wp2
        go_ret
        exact P6.out
    · have z8 : E2 = 8 := by
        rcases U2.out _ FH.out with ⟨h2, _⟩ | ⟨h2, _⟩
        · exact absurd h2 z2
        · exact h2
      subst z8
      go_wp2_with fail
      refine A2.out.mono ?_
      rintro e w3 ⟨rfl, b, hb, d3, o3⟩
      have X3 : Xd (appD D1 sT FB b) c (some FL) := by
        rcases U2.out b hb with ⟨h2, _⟩ | ⟨_, h2⟩
        · cases h2
        · exact h2
      have P6 : Hid (KeepPost Fp w Bd m c (some FL) (.returned (.int .i64 8)) w3) := Lib.hid ⟨_, rfl, _, .inr ⟨rfl, X3⟩, d3, O2.out.trans o3⟩
      clear A2 d3 o3 O2 U2 hb X3
      go_wp2
      go_ret
      exact P6.out
  · go_enter Tryz.func10, Tryz.ntmps10
    go_wp2_with fail
    refine GN.out.mono ?_
    rintro e w1 ⟨rfl, d1, o1⟩
    have P6 : Hid (KeepPost Fp w Bd m c (some FL) (.returned (.int .i64 8)) w1) := Lib.hid ⟨_, rfl, _, .inr ⟨rfl, X1⟩, d1, o1⟩
    clear GN d1 o1 X1
    go_wp2
    go_ret
    exact P6.out
end Go.Proofs.YtjlkdglbnfifeaaGreatDoor
