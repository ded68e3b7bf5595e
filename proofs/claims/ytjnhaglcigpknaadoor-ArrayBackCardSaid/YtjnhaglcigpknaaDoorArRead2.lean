/-
  CONTRACT of layer 8's Read, over the bytes that Write wrote.
-/
import Derived.Test.YtjnhaglcigpknaaDoorArRead
import Derived.Test.YtjnhaglcigpknaaDoorPkRdList
namespace Go.Proofs.YtjnhaglcigpknaaDoor
open Go.RowKit Go.Maps
attribute [local go_sem] Oper.semAt_some

theorem open_read {s : ByteArray} {i j : Nat} {R : List UInt8} (h : At s i (40 :: R)) (hj : j < 60) : opA s i j 0 = i + 1 ∧ opJ s i j 0 = j + 1 ∧ opE s i j 0 = 0 := by
  have e : opK j 0 = 0 := by unfold opK; rw [if_neg (by omega), if_neg (by omega)]
  obtain ⟨b1, b2⟩ := sign_read (k := 40) h rfl
  have e1 : opE s i j 0 = 0 := by unfold opE; rw [e, b2]
  exact ⟨by unfold opA; rw [e, b1], by unfold opJ; rw [e1, if_neg (by omega)], e1⟩
theorem close_read {s : ByteArray} {i j : Nat} {R : List UInt8} (h : At s i (41 :: R)) (hj : 0 < j) : clA s i j 0 = i + 1 ∧ clJ s i j 0 = j - 1 ∧ clE s i j 0 = 0 := by
  have e : clK j 0 = 0 := by unfold clK; rw [if_neg (by omega), if_neg (by omega)]
  obtain ⟨b1, b2⟩ := sign_read (k := 41) h rfl
  have e1 : clE s i j 0 = 0 := by unfold clE; rw [e, b2]
  exact ⟨by unfold clA; rw [e, b1], by unfold clJ; rw [e1, if_neg (by omega)], e1⟩
def leftR (s : ByteArray) (rb : Nat) (w : World) : Nat := match w.cell? ⟨rb, 1, none⟩ with | some (.int _ i) => s.size - i.toNat | _ => 0
theorem leftR_eq {s : ByteArray} {rb i j k : Nat} {w : World} (h : Rd w rb s i j k) : leftR s rb w = s.size - i := by unfold leftR; rw [h.a]; simp
theorem putP_newQ {P : List Pr} {k : ByteArray} {t : Ce} (h : hasP P k = false) : putP P k t = P ++ [(k, t)] := by
  unfold putP
  rw [if_neg]
  rintro ⟨p, hp, he⟩
  have h2 : hasP P k = true := by
    unfold hasP
    rw [List.any_eq_true]
    exact ⟨p, hp, by simp [he]⟩
  rw [h] at h2
  cases h2
theorem cont_snoc (L : List En) (x : En) : cont (L ++ [x]) = cont L ++ [(x.key, x.c)] := by simp [cont]
theorem hasP_apart {pre : List En} {x : En} (h : ((pre ++ [x]).map (fun e => e.key.data.toList)).Nodup) : hasP (cont pre) x.key = false := by
  rw [List.map_append, List.nodup_append] at h
  unfold hasP
  rw [List.any_eq_false]
  intro p hp
  simp only [cont, List.mem_map] at hp
  obtain ⟨e, he, rfl⟩ := hp
  have := h.2.2 (e.key.data.toList) (List.mem_map.2 ⟨e, he, rfl⟩) (x.key.data.toList) (by simp)
  simpa using this
theorem encE_head (x : En) : ∃ c l, encE x = c :: l ∧ c.toNat ≠ 41 := by
  obtain ⟨d, l, hc, hd, _⟩ := decDigits_head x.key.size
  have e : encE x = Lib.decDigits x.key.size ++ ([58] ++ x.key.data.toList ++ encC x.c) := by
    unfold encE pT
    rw [Lib.itoa_nonneg]
    simp
  refine ⟨UInt8.ofNat (48 + d), l ++ ([58] ++ x.key.data.toList ++ encC x.c), by rw [e, hc]; rfl, ?_⟩
  rw [digit_nat hd]
  omega
set_option maxRecDepth 100000 in
set_option maxHeartbeats 8000000 in
theorem aread_any {rb : Nat} {s : ByteArray} {i d : Nat} (w : World) (h : Rd w rb s i d 0) (L : List En) (R : List UInt8) (hat : At s i ([40] ++ (encL L ++ ([41] ++ R)))) (hg : ∀ e ∈ L, goodE e) (hk : (L.map (fun e => e.key.data.toList)).Nodup) (hL : L.length ≤ 900) (hd : d < 60) (hi : i ≤ s.size) (hsz : s.size ≤ 100000) :
    Calls Tryd.prog 8 #[.pointer (some ⟨rb, 0, none⟩)] w fun e w' => ∃ b, e = .returned (.tuple #[.pointer (some ⟨b, 0, none⟩), .int .i64 0]) ∧ w.heap.size ≤ b ∧ RE w rb b s (i + 1 + (encL L).length + 1) d (cont L) w' := by
  have HG := Lib.hid hg
  have HK := Lib.hid hk
  have hm : s.size ≤ maxLen := by unfold maxLen; omega
  have hat1 : At s (i + 1) (encL L ++ ([41] ++ R)) := hat.tail
  have ho := open_read (R := encL L ++ ([41] ++ R)) hat hd
  have hlt := hat.len (by simp)
  have HR := Lib.hid h
  have hrb : rb < w.heap.size := h.lt
  have HA1 := Lib.hid hat1
  clear h hg hk hat hat1
  go_enter Tryd.func8, Tryd.ntmps8
  go_wp2_with fail
  have hba : Below w.heap.size w (w.alloc (.cells #[.map none, .pointer none, .pointer none] 43)) := (Below.refl _ _).alloc (Nat.le_refl _) _
  have re0 : RE w rb w.heap.size s i d [] (w.alloc (.cells #[.map none, .pointer none, .pointer none] 43)) := ⟨HR.out.below hba hrb, (AA.new w).af, Only.of_below hba (Nat.le_refl _), hrb⟩
  generalize w.alloc (.cells #[.map none, .pointer none, .pointer none] 43) = W1 at *
  refine (ropen_any rb s i d 0 W1 re0.rd hi (by omega) hm).mono ?_
  rintro e w2 ⟨rfl, hr2, ho2⟩
  rw [ho.1, ho.2.1, ho.2.2] at hr2
  have HR2 := Lib.hid (re0.read hr2 ho2)
  clear hr2 ho2 re0 hba HR ho
  go_wp2_with fail
  go_loopw [5] (fun _ wr => ∃ k, k ≤ L.length ∧ Hid (RE w rb w.heap.size s (i + 1 + (encL (L.take k)).length) (d + 1) (cont (L.take k)) wr)) (fun _ wr => leftR s rb wr)
  case atStart => exact ⟨0, by omega, Lib.hid (by simpa [encL, cont] using HR2.out)⟩
  case round =>
    obtain ⟨k, hk, HRk⟩ := hrel
    have HLW := Lib.hid (leftR_eq HRk.out.rd)
    by_cases hc : k < L.length
    · have hsp : L = L.take k ++ L[k] :: L.drop (k + 1) := by simp
      have hes : encL L = encL (L.take k) ++ (encE L[k] ++ encL (L.drop (k + 1))) := by
        have e := congrArg encL hsp
        rw [e]
        unfold encL
        rw [List.flatMap_append, List.flatMap_cons]
      have hat : At s (i + 1 + (encL (L.take k)).length) (encE L[k] ++ (encL (L.drop (k + 1)) ++ ([41] ++ R))) := by
        have h := HA1.out
        rw [hes, List.append_assoc, List.append_assoc] at h
        exact h.tail
      obtain ⟨c, l, hcl, hcn⟩ := encE_head L[k]
      have hlen := hat.len (by rw [hcl]; simp)
      have hpos : 0 < (encE L[k]).length := by rw [hcl]; simp
      have hmo : moreB s (i + 1 + (encL (L.take k)).length) 0 = true := by
        have h2 : At s (i + 1 + (encL (L.take k)).length) (c :: (l ++ (encL (L.drop (k + 1)) ++ ([41] ++ R)))) := by rw [hcl] at hat; exact hat
        unfold moreB
        rw [At.stB h2]
        have h3 : (c.toNat == 41) = false := by rw [beq_eq_false_iff_ne]; exact hcn
        rw [h3]
        simp; omega
      have hnod : hasP (cont (L.take k)) L[k].key = false := hasP_apart (by
        rw [← List.take_succ_eq_append_getElem hc]
        exact (HK.out).sublist ((List.take_sublist _ _).map _))
      have HM := Lib.hid (more_any rb s (i + 1 + (encL (L.take k)).length) (d + 1) 0 wr HRk.out.rd (by omega) hm)
      rw [hmo] at HM
      have HT := Lib.hid (List.take_succ_eq_append_getElem hc)
      have hgk := HG.out L[k] (List.getElem_mem hc)
      have htl : (L.take k).length ≤ 900 := by rw [List.length_take]; omega
      clear hmo hes hsp hcl hcn
      generalize L[k] = x at *
      have CE := Lib.hid (fun W3 (h : RE w rb w.heap.size s (i + 1 + (encL (L.take k)).length) (d + 1) (cont (L.take k)) W3) => rentry_any h x _ hat hgk (by omega) hsz hnod (by simp [cont]; simp at htl; omega))
      have HNO := Lib.hid hnod
      clear hat hgk hnod
      go_wp2_with fail
      refine HM.out.mono ?_
      rintro e w3 ⟨rfl, nq, rfl⟩
      have HR3 := Lib.hid (HRk.out.read (W' := wr.drewN nq) HRk.out.rd.drewN (Only.refl rb wr).drewN)
      generalize wr.drewN nq = W3 at *
      clear HM
      go_wp2_with fail
      refine (CE.out _ HR3.out).mono ?_
      rintro e w4 ⟨rfl, hr4⟩
      rw [putP_newQ HNO.out, ← cont_snoc, ← HT.out] at hr4
      have HL4 := Lib.hid (leftR_eq hr4.rd)
      have hpp : i + 1 + (encL (L.take k)).length + (encE x).length = i + 1 + (encL (L.take (k + 1))).length := by rw [HT.out, encL_snoc, List.length_append]; omega
      rw [hpp] at hr4
      have HR4 := Lib.hid hr4
      clear hr4 CE HR3 HNO
      go_wp2_with fail
      exact ⟨⟨k + 1, by omega, HR4⟩, by rw [HL4.out, HLW.out]; omega⟩
    · have hkn : k = L.length := by omega
      subst hkn
      rw [List.take_length] at HRk
      have hat : At s (i + 1 + (encL L).length) ([41] ++ R) := HA1.out.tail
      have hlen := hat.len (by simp)
      have hmo : moreB s (i + 1 + (encL L).length) 0 = false := by
        unfold moreB
        rw [At.stB (l := R) hat]
        simp
      have hcl := close_read (R := R) (j := d + 1) hat (by omega)
      have HM := Lib.hid (more_any rb s (i + 1 + (encL L).length) (d + 1) 0 wr HRk.out.rd (by omega) hm)
      rw [hmo] at HM
      clear hmo hat HLW
      go_wp2_with fail
      refine HM.out.mono ?_
      rintro e w3 ⟨rfl, nq, rfl⟩
      have HR3 := Lib.hid (HRk.out.read (W' := wr.drewN nq) HRk.out.rd.drewN (Only.refl rb wr).drewN)
      generalize wr.drewN nq = W3 at *
      clear HM HRk
      go_wp2_with fail
      refine (rclose_any rb s _ (d + 1) 0 W3 HR3.out.rd (by omega) (by omega) hm).mono ?_
      rintro e w4 ⟨rfl, hr4, ho4⟩
      rw [hcl.1, hcl.2.1, hcl.2.2, Nat.add_sub_cancel] at hr4
      have HR4 := Lib.hid (HR3.out.read hr4 ho4)
      clear hr4 ho4 HR3 hcl
      go_wp2_with fail
      refine (err_any _ _ _ _ _ _ HR4.out.rd).mono ?_
      rintro e w5 ⟨rfl, rfl⟩
      go_wp2_with fail
      refine bodyPost_ret (v := .tuple #[.pointer (some ⟨w.heap.size, 0, none⟩), .int .i64 0]) ?_ rfl ⟨_, rfl, Nat.le_refl _, HR4.out⟩
      simp [results, Tryd.results8, go_sem]
end Go.Proofs.YtjnhaglcigpknaaDoor
