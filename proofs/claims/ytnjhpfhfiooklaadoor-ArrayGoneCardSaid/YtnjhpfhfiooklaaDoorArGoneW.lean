/-
  THE WALK of ArrayGone.
-/
import Derived.Test.YtnjhpfhfiooklaaDoorArGoneM
import Derived.Test.YtnjhpfhfiooklaaDoorArWr
namespace Go.Proofs.YtnjhpfhfiooklaaDoor
open Go.RowKit Go.Maps

/-- What the rounds keep. -/
structure GnR (w w1 wr : World) (b : Nat) (P : List Pr) (g n c : Nat) (ks : List ByteArray) : Prop where
  aa : AA w wr b P
  af : AF (fun k => w.heap.size ≤ k ∧ k < w1.heap.size) wr b P
  row : wr.ownsRow w1.heap.size 9 1 (.slice (some ⟨g, 0, none⟩) n c) n (ks.map Value.string)
set_option maxRecDepth 100000 in
set_option maxHeartbeats 4000000 in
theorem gone_walk (q : Option Addr) (cap : Nat) (l : List Ac) (back : Bool) (w : World) (hA : AcAt w q l) (hl : l.length ≤ maxLen) (ht : ∀ t ∈ l, t.ok) (htab : Lib.TabBelow Tryd.prog w.heap.size w "internal/strconv.uint64pow10" .u64 Lib.pow10Tab) :
    Calls Tryd.prog 8 #[.slice q l.length cap, .bool back] w fun e w' => e = .returned (.bool true) ∧ Below w.heap.size w w' := by
  have CM := Lib.hid (made_any q cap l w hA hl ht)
  have HT := Lib.hid htab
  clear hA hl ht htab
  go_enter Tryd.func8, Tryd.ntmps8
  go_wp2_with fail
  refine CM.out.mono ?_
  rintro e w1 ⟨b, P, rfl, hM⟩
  have M1 := Lib.hid hM
  clear hM CM
  go_wp2_with fail
  have CK := Lib.hid (M1.out.aa.keys (fun p hp => by have := (M1.out.key p hp).1; omega))
  refine CK.out.mono ?_
  rintro e w3 ⟨v, rfl, hro, hb3⟩
  obtain ⟨ga, gc, rfl⟩ : ∃ a c, v = .slice a (keysP P).length c := by
    rcases hro.2 with ⟨h1, h2⟩ | ⟨g, cap, _, h1, _⟩
    · refine ⟨none, 0, ?_⟩
      have h3 : (keysP P).length = 0 := h2
      rw [h3, h1]
    · exact ⟨_, _, h1⟩
  have hkp : (keysP P).length = P.length := by simp [keysP]
  have hro' : w3.ownsRow w1.heap.size 9 1 (.slice ga P.length gc) P.length ((keysP P).map Value.string) := by
    have h : w3.ownsRow w1.heap.size 9 1 (.slice ga (keysP P).length gc) (keysP P).length ((keysP P).map Value.string) := hro
    rwa [hkp] at h
  rw [hkp]
  have hp40 := M1.out.few
  have GN : Hid (AA w w3 b (restP back P 0) ∧ AF (fun k => w.heap.size ≤ k ∧ k < w1.heap.size) w3 b (restP back P 0) ∧ w3.ownsRow w1.heap.size 9 1 (.slice ga P.length gc) P.length ((keysP P).map Value.string)) := Lib.hid ⟨by rw [rest_zero]; exact M1.out.aa.next hb3, by rw [rest_zero]; exact (M1.out.aa.af.mono fun k h1 h2 => ⟨h2, h1⟩).next hb3, hro'⟩
  have HKD := Lib.hid M1.out.aa.kd
  have HKS := Lib.hid fun p (hp : p ∈ P) => M1.out.key p hp
  clear hro hro' hb3 CK M1 hkp
  have hkp : (keysP P).length = P.length := by simp [keysP]
  go_wp2_with fail
  go_loopw [16] (fun iv wr => ∃ k : Nat, k ≤ P.length ∧ iv = .int .i64 k ∧ Hid (AA w wr b (restP back P k) ∧ AF (fun k => w.heap.size ≤ k ∧ k < w1.heap.size) wr b (restP back P k) ∧ wr.ownsRow w1.heap.size 9 1 (.slice ga P.length gc) P.length ((keysP P).map Value.string))) (fun iv _ => P.length - (intOf iv).toNat)
  case atStart => exact ⟨0, by omega, rfl, GN⟩
  case round =>
    obtain ⟨k, hk, rfl, HO⟩ := hrel
    by_cases hc : k < P.length
    · obtain ⟨gk, rfl⟩ : ∃ gk, ga = some ⟨gk, 0, none⟩ := by
        obtain ⟨g2, c2, h2⟩ := row_pos HO.out.2.2 (by omega)
        injection h2 with h2
        exact ⟨g2, h2⟩
      have hi := idx_lt back hc
      have hst := rest_step back HKD.out hc hi
      have hx := (HKS.out _ (List.getElem_mem hi)).1
      have e1 := row_at HO.out.2.2 k hc (by omega)
      have e2 := row_at HO.out.2.2 (idxP back P.length k) hi (by omega)
      have hg : (keysP P)[idxP back P.length k]'(by omega) = (P[idxP back P.length k]).1 := by simp [keysP]
      rw [hg] at e2
      clear hg
      generalize (P[idxP back P.length k]).1 = x at *
      replace hx : x.size ≤ 1000000 := by omega
      cases back with
      | false =>
        have hyx : (keysP P)[k] = x := by
          have h : wr.cell? ⟨gk, k, none⟩ = some (.string x) := e2
          rw [e1] at h
          injection h with h
          injection h
        rw [hyx] at e1
        clear e2 hi hyx
        have CH := Lib.hid (HO.out.1.has x hx)
        rw [hst.2] at CH
        have CD := Lib.hid fun W (hb : Below wr.heap.size wr W) => adel_any (HO.out.2.1.next hb) x hx
        rw [hst.1] at CD
        have hlr := rest_len false P (k + 1)
        have hhp := hasP_del (restP false P k) x
        rw [hst.1] at hhp
        have RW := Lib.hid HO.out.2.2
        have AR := Lib.hid HO.out.1
        clear hst HO
        obtain ⟨Q, hQ⟩ : ∃ Q, Q = restP false P (k + 1) := ⟨_, rfl⟩
        rw [← hQ] at hlr hhp CD
        have HQ := Lib.hid hQ
        clear hQ
        go_wp2_with fail
        refine CH.out.mono ?_
        rintro e w5 ⟨rfl, hb5⟩
        have HB5 := Lib.hid hb5
        clear hb5 CH
        go_wp2_with fail
        refine (CD.out _ HB5.out).mono ?_
        rintro e w6 ⟨rfl, hd⟩
        have A6 : Hid (AA w w6 b Q) := Lib.hid ((AR.out.next HB5.out).delF (fun k hk => hk.1) hd)
        have F6 := Lib.hid hd.1
        have R6 := Lib.hid (row_oth (row_below RW.out HB5.out) hd.2 (fun k hk => hk.2))
        clear hd CD RW AR HB5
        have CH := Lib.hid (A6.out.has x hx)
        rw [hhp] at CH
        go_wp2_with fail
        refine CH.out.mono ?_
        rintro e w7 ⟨rfl, hb7⟩
        have A7 := Lib.hid (A6.out.next hb7)
        have F7 := Lib.hid (F6.out.next hb7)
        have R7 := Lib.hid (row_below R6.out hb7)
        clear hb7 CH A6 F6 R6
        go_wp2_with fail
        refine A7.out.len.mono ?_
        rintro e w8 ⟨rfl, hb8⟩
        have HN := Lib.hid (And.intro (A7.out.next hb8) (And.intro (F7.out.next hb8) (row_below R7.out hb8)))
        have hli : (Q.length : Int) = (P.length : Int) - 1 - k := by omega
        clear hb8 A7 F7 R7
        go_wp2_with fail
        rw [HQ.out] at HN
        exact ⟨⟨k + 1, by omega, by go_num, HN⟩, by simp [intOf]; omega⟩
      | true =>
        have hj : idxP true P.length k = P.length - 1 - k := rfl
        rw [hj] at e2 hi
        generalize (keysP P)[k] = y at *
        clear hj
        have CH := Lib.hid (HO.out.1.has x hx)
        rw [hst.2] at CH
        have CD := Lib.hid fun W (hb : Below wr.heap.size wr W) => adel_any (HO.out.2.1.next hb) x hx
        rw [hst.1] at CD
        have hlr := rest_len true P (k + 1)
        have hhp := hasP_del (restP true P k) x
        rw [hst.1] at hhp
        have RW := Lib.hid HO.out.2.2
        have AR := Lib.hid HO.out.1
        clear hst HO
        obtain ⟨Q, hQ⟩ : ∃ Q, Q = restP true P (k + 1) := ⟨_, rfl⟩
        rw [← hQ] at hlr hhp CD
        have HQ := Lib.hid hQ
        clear hQ
        go_wp2_with fail
        refine CH.out.mono ?_
        rintro e w5 ⟨rfl, hb5⟩
        have HB5 := Lib.hid hb5
        clear hb5 CH
        go_wp2_with fail
        refine (CD.out _ HB5.out).mono ?_
        rintro e w6 ⟨rfl, hd⟩
        have A6 : Hid (AA w w6 b Q) := Lib.hid ((AR.out.next HB5.out).delF (fun k hk => hk.1) hd)
        have F6 := Lib.hid hd.1
        have R6 := Lib.hid (row_oth (row_below RW.out HB5.out) hd.2 (fun k hk => hk.2))
        clear hd CD RW AR HB5
        have CH := Lib.hid (A6.out.has x hx)
        rw [hhp] at CH
        go_wp2_with fail
        refine CH.out.mono ?_
        rintro e w7 ⟨rfl, hb7⟩
        have A7 := Lib.hid (A6.out.next hb7)
        have F7 := Lib.hid (F6.out.next hb7)
        have R7 := Lib.hid (row_below R6.out hb7)
        clear hb7 CH A6 F6 R6
        go_wp2_with fail
        refine A7.out.len.mono ?_
        rintro e w8 ⟨rfl, hb8⟩
        have HN := Lib.hid (And.intro (A7.out.next hb8) (And.intro (F7.out.next hb8) (row_below R7.out hb8)))
        have hli : (Q.length : Int) = (P.length : Int) - 1 - k := by omega
        clear hb8 A7 F7 R7
        go_wp2_with fail
        rw [HQ.out] at HN
        exact ⟨⟨k + 1, by omega, by go_num, HN⟩, by simp [intOf]; omega⟩
    · have hkn : k = P.length := by omega
      subst hkn
      have hr0 : restP back P P.length = [] := List.length_eq_zero_iff.1 (by rw [rest_len]; omega)
      rw [hr0] at HO
      have A0 := Lib.hid HO.out.1
      clear HO GN
      go_wp2_with fail
      have hba : Below wr.heap.size wr (wr.alloc (.cells #[.slice none 0 0] 53)) := (Below.refl _ _).alloc (Nat.le_refl _) _
      obtain ⟨mm, L, hav, hcont, _⟩ := A0.out.af
      obtain rfl : L = [] := by
        cases L with
        | nil => rfl
        | cons e L => simp [cont] at hcont
      refine (awrite_nil (hav.next hba) (Wr.new wr) (by simp) (fun h => by have := hav.own_lt h; omega) (Nat.le_refl wr.heap.size)).mono ?_
      rintro e w6 ⟨rfl, hw6, hb6⟩
      have A6 := Lib.hid (A0.out.next (hba.trans hb6))
      have W6 := Lib.hid hw6
      clear hba hav hcont hw6 hb6 A0
      go_wp2_with fail
      refine (aawake_any _ (fun w' h' => HT.out w' (A6.out.bel.trans (h'.mono A6.out.bel.size)))).mono ?_
      rintro e w7 ⟨rfl, hb7⟩
      have A7 := Lib.hid (A6.out.next hb7)
      have W7 := Lib.hid (W6.out.kept hb7)
      clear hb7 A6 W6
      go_wp2_with fail
      refine (wbytes_any _ _ _ _ W7.out).mono ?_
      rintro e w8 ⟨rfl, rfl⟩
      go_wp2_with fail
      refine (A7.out.keys (by simp)).mono ?_
      rintro e w9 ⟨v, rfl, hro, hb9⟩
      obtain ⟨va, vc, rfl⟩ : ∃ a c, v = .slice a 0 c := by
        rcases hro.2 with ⟨h1, _⟩ | ⟨g, cap, _, h1, _⟩
        · exact ⟨none, 0, h1⟩
        · exact ⟨_, _, h1⟩
      have hbf := A7.out.bel.trans (hb9.mono A7.out.bel.size)
      clear hro hb9
      go_wp2_with fail
      go_ret
      exact ⟨rfl, hbf⟩
end Go.Proofs.YtnjhpfhfiooklaaDoor
