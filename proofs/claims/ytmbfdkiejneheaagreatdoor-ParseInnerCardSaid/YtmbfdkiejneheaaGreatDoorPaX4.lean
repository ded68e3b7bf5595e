/-
 CONTRACTS of layer 13's printedInBrackets.
-/
import Derived.Test.YtmbfdkiejneheaaGreatDoorPaX3
namespace Go.Proofs.YtmbfdkiejneheaaGreatDoor
open Go.RowKit

/-- A second reader over the same tokens. -/
theorem Pst.second {w : World} {K : Ps} {l : List Tok} {dp : Nat} {pr : Bool} {er : ErO} (h : Pst w K l dp pr er) : Pst (w.alloc (.cells #[.slice (some ⟨K.g, 0, none⟩) K.L.length K.c, .int .i64 ((K.L.length - l.length : Nat) : Int), .int .i64 0, .bool false, .int .i64 0, .int .i64 0] 42)) ⟨w.heap.size, K.g, K.c, K.L⟩ l 0 false none :=
 ⟨heap_alloc_new w _, h.ts.kept (Below.heap_alloc _ _ _ h.ts.lt), h.tl, h.suf, h.ne, h.len, Nat.ne_of_lt h.ts.lt, fun e => absurd rfl e, fun _ e => (by cases e), h.cap⟩
def behB (l : List Tok) : Bool := decide ((tk l).k = 1 ∨ (tk l).k = 0) || decide (fx l = [59] ∨ fx l = [125]) || targB l
theorem bracketP_succ (n : Nat) (l : List Tok) (k : Int) : bracketP (n + 1) l k = if (tk l).k = 0 then false else if (if fx l = [40] then k + 1 else if fx l = [41] then k - 1 else k) = 0 then behB (nx l) else bracketP n (nx l) (if fx l = [40] then k + 1 else if fx l = [41] then k - 1 else k) := rfl
structure BkSt (K : Ps) (w : World) (l : List Tok) (gk : Nat) (k : Int) (wr : World) : Prop where
 ex : ∃ l1 f, l1.length ≤ gk ∧ l1.length < f ∧ -(6000 : Int) + l1.length ≤ k ∧ k + l1.length ≤ 6000 ∧ bracketP f l1 k = bracketP (l.length + 1) l 0 ∧ Pst wr ⟨w.heap.size, K.g, K.c, K.L⟩ l1 0 false none ∧ Below w.heap.size w wr
set_option maxHeartbeats 8000000 in
set_option maxRecDepth 100000 in
theorem pbrack_any (K : Ps) (l : List Tok) (dp : Nat) (pr : Bool) (er : ErO) (w : World) (h : Pst w K l dp pr er) :
  Calls Tryz.prog 106 #[.pointer (some ⟨K.b, 0, none⟩)] w fun e w' => e = .returned (.bool (bracketP (l.length + 1) l 0)) ∧ Below w.heap.size w w' := by
 have HI : Hid (BkSt K w l l.length 0 (w.alloc (.cells #[.slice (some ⟨K.g, 0, none⟩) K.L.length K.c, .int .i64 ((K.L.length - l.length : Nat) : Int), .int .i64 0, .bool false, .int .i64 0, .int .i64 0] 42)).drew) := kH ⟨l, l.length + 1, Nat.le_refl _, Nat.lt_succ_self _, by have := h.pos; omega, by have := h.pos; omega, rfl, h.second.drew, ((Below.refl _ _).alloc (Nat.le_refl _) _).drew⟩
 have CK := kH fun l1 (k : Int) => pkind_any ⟨w.heap.size, K.g, K.c, K.L⟩ l1 0 false none k
 have CF := kH fun l1 => pfix_any ⟨w.heap.size, K.g, K.c, K.L⟩ l1 0 false none
 have CC := kH fun l1 s => pcomes_any ⟨w.heap.size, K.g, K.c, K.L⟩ l1 0 false none s
 have CN := kH fun l1 => pnext_any ⟨w.heap.size, K.g, K.c, K.L⟩ l1 0 false none
 have CT := kH fun l1 => ptargc_any ⟨w.heap.size, K.g, K.c, K.L⟩ l1 0 false none
 obtain ⟨c0, c1, c2, c3, c4, c5, f1, f2, f3, f4, f5⟩ := h.rd.cells
 have hbl := h.lt
 clear h
 go_enter Tryz.func106, Tryz.ntmps106
 go_wp2_with fail
 go_region
 go_wp2_with fail
 go_loopg [4] l.length (fun gk v4 wr => ∃ k : Int, v4 = .int .i64 k ∧ Hid (BkSt K w l gk k wr))
 case atStart => exact ⟨0, rfl, HI⟩
 case round =>
  clear HI c0 c1 c2 c3 c4 c5 f1 f2 f3 f4 f5 hbl
  obtain ⟨k, rfl, HS⟩ := hrel
  obtain ⟨l1, f, hgk, hf, hk1, hk2, heq, hst, hbel⟩ := HS.out.ex
  have CK := kH (CK.out l1)
  have CF := kH (CF.out l1)
  have CN := kH (CN.out l1)
  have CCN := kH (CC.out (nx l1))
  have CTN := kH (CT.out (nx l1))
  have CKN := kH fun k => pkind_any ⟨w.heap.size, K.g, K.c, K.L⟩ (nx l1) 0 false none k
  have H0 := kH (Mv.refl hst)
  have HBE := kH hbel
  have hlp := hst.pos
  obtain ⟨f, rfl⟩ : ∃ j, f = j + 1 := ⟨f - 1, by omega⟩
  rw [bracketP_succ] at heq
  by_cases h0 : (tk l1).k = 0
  ·
   have HX : Hid (bracketP (l.length + 1) l 0 = false) := kH (by rw [← heq, if_pos h0])
   have CK := kH (CK.out 0)
   rw [decide_eq_true (show ((tk l1).k : Int) = 0 from by omega)] at CK
   clear heq hgk hf hk1 hk2 hst hbel hlp h0 HS
   go_wp2_with fail
   refine (CK.out _ H0.out.st).mono ?_
   rintro e w1 ⟨rfl, m1⟩
   have H1 := kH (H0.out.trans m1)
   clear m1
   go_wp2_with fail
   go_ret
   rw [HX.out]
   exact ⟨rfl, HBE.out.trans (Onl.below H1.out.2 (Nat.le_refl _) HBE.out.size)⟩
  ·
   rw [if_neg h0] at heq
   have hlt := hst.tll.nx.2.2.2 h0
   have CK0 := kH (CK.out 0)
   rw [decide_eq_false (show ¬ ((tk l1).k : Int) = 0 from by omega)] at CK0
   obtain ⟨S, hS⟩ : ∃ S, fx l1 = S := ⟨_, rfl⟩
   rw [hS] at CF heq
   by_cases h1 : S = [40]
   ·
    subst h1
    rw [if_pos (rfl : ([40] : List UInt8) = [40])] at heq
    have hkb1 : (-(9223372036854775808) : Int) ≤ k + 1 := by omega
    have hkb2 : k + 1 ≤ 9223372036854775807 := by omega
    by_cases hz : (k + 1 : Int) = 0
    ·
     have hz2 : ((k + 1 : Int) == 0) = true := by rw [beq_iff_eq]; exact hz
     have HXB : Hid (bracketP (l.length + 1) l 0 = behB (nx l1)) := kH (by rw [← heq, if_pos hz])
     clear heq hgk hf hst hbel hlt hS HS h0 hlp
     by_cases t0 : ((tk (nx l1)).k : Int) = 1
     ·
      have HX : Hid (bracketP (l.length + 1) l 0 = true) := kH (by
       rw [HXB.out]
       have e1 : (tk (nx l1)).k = 1 := by omega
       simp [behB, e1])
      have D0 := kH (CKN.out 1)
      rw [decide_eq_true t0] at D0
      clear HXB t0 hz
      go_wp2_with fail
      refine (CK0.out _ H0.out.st).mono ?_
      rintro e w1 ⟨rfl, m1⟩
      have H1 := kH (H0.out.trans m1)
      clear m1
      go_wp2_with fail
      refine (CF.out _ H1.out.st).mono ?_
      rintro e w2 ⟨rfl, m2⟩
      have H2 := kH (H1.out.trans m2)
      clear m2
      go_wp2_with fail
      refine (CN.out _ H2.out.st).mono ?_
      rintro e w3 ⟨rfl, m3⟩
      have H3 := kH (H2.out.trans m3)
      clear m3
      unfold tokV
      go_wp2_with fail
      refine (D0.out _ H3.out.st).mono ?_
      rintro e w4 ⟨rfl, m4⟩
      have H4 := kH (H3.out.trans m4)
      clear m4
      go_wp2_with fail
      go_ret
      rw [HX.out]
      exact ⟨rfl, HBE.out.trans (Onl.below H4.out.2 (Nat.le_refl _) HBE.out.size)⟩
     ·
      by_cases t1 : ((tk (nx l1)).k : Int) = 0
      ·
       have HX : Hid (bracketP (l.length + 1) l 0 = true) := kH (by
        rw [HXB.out]
        have e0 : (tk (nx l1)).k = 0 := by omega
        simp [behB, e0])
       have D0 := kH (CKN.out 1)
       rw [decide_eq_false t0] at D0
       have D1 := kH (CKN.out 0)
       rw [decide_eq_true t1] at D1
       clear HXB t0 t1 hz
       go_wp2_with fail
       refine (CK0.out _ H0.out.st).mono ?_
       rintro e w1 ⟨rfl, m1⟩
       have H1 := kH (H0.out.trans m1)
       clear m1
       go_wp2_with fail
       refine (CF.out _ H1.out.st).mono ?_
       rintro e w2 ⟨rfl, m2⟩
       have H2 := kH (H1.out.trans m2)
       clear m2
       go_wp2_with fail
       refine (CN.out _ H2.out.st).mono ?_
       rintro e w3 ⟨rfl, m3⟩
       have H3 := kH (H2.out.trans m3)
       clear m3
       unfold tokV
       go_wp2_with fail
       refine (D0.out _ H3.out.st).mono ?_
       rintro e w4 ⟨rfl, m4⟩
       have H4 := kH (H3.out.trans m4)
       clear m4
       go_wp2_with fail
       refine (D1.out _ H4.out.st).mono ?_
       rintro e w5 ⟨rfl, m5⟩
       have H5 := kH (H4.out.trans m5)
       clear m5
       go_wp2_with fail
       go_ret
       rw [HX.out]
       exact ⟨rfl, HBE.out.trans (Onl.below H5.out.2 (Nat.le_refl _) HBE.out.size)⟩
      ·
       by_cases t2 : fx (nx l1) = [59]
       ·
        have HX : Hid (bracketP (l.length + 1) l 0 = true) := kH (by
         rw [HXB.out]
         simp [behB, t2])
        have D0 := kH (CKN.out 1)
        rw [decide_eq_false t0] at D0
        have D1 := kH (CKN.out 0)
        rw [decide_eq_false t1] at D1
        have D2 := kH (CCN.out [59])
        rw [decide_eq_true t2] at D2
        clear HXB t0 t1 t2 hz
        go_wp2_with fail
        refine (CK0.out _ H0.out.st).mono ?_
        rintro e w1 ⟨rfl, m1⟩
        have H1 := kH (H0.out.trans m1)
        clear m1
        go_wp2_with fail
        refine (CF.out _ H1.out.st).mono ?_
        rintro e w2 ⟨rfl, m2⟩
        have H2 := kH (H1.out.trans m2)
        clear m2
        go_wp2_with fail
        refine (CN.out _ H2.out.st).mono ?_
        rintro e w3 ⟨rfl, m3⟩
        have H3 := kH (H2.out.trans m3)
        clear m3
        unfold tokV
        go_wp2_with fail
        refine (D0.out _ H3.out.st).mono ?_
        rintro e w4 ⟨rfl, m4⟩
        have H4 := kH (H3.out.trans m4)
        clear m4
        go_wp2_with fail
        refine (D1.out _ H4.out.st).mono ?_
        rintro e w5 ⟨rfl, m5⟩
        have H5 := kH (H4.out.trans m5)
        clear m5
        go_wp2_with fail
        refine (D2.out _ H5.out.st).mono ?_
        rintro e w6 ⟨rfl, m6⟩
        have H6 := kH (H5.out.trans m6)
        clear m6
        go_wp2_with fail
        go_ret
        rw [HX.out]
        exact ⟨rfl, HBE.out.trans (Onl.below H6.out.2 (Nat.le_refl _) HBE.out.size)⟩
       ·
        by_cases t3 : fx (nx l1) = [125]
        ·
         have HX : Hid (bracketP (l.length + 1) l 0 = true) := kH (by
          rw [HXB.out]
          simp [behB, t3])
         have D0 := kH (CKN.out 1)
         rw [decide_eq_false t0] at D0
         have D1 := kH (CKN.out 0)
         rw [decide_eq_false t1] at D1
         have D2 := kH (CCN.out [59])
         rw [decide_eq_false t2] at D2
         have D3 := kH (CCN.out [125])
         rw [decide_eq_true t3] at D3
         clear HXB t0 t1 t2 t3 hz
         go_wp2_with fail
         refine (CK0.out _ H0.out.st).mono ?_
         rintro e w1 ⟨rfl, m1⟩
         have H1 := kH (H0.out.trans m1)
         clear m1
         go_wp2_with fail
         refine (CF.out _ H1.out.st).mono ?_
         rintro e w2 ⟨rfl, m2⟩
         have H2 := kH (H1.out.trans m2)
         clear m2
         go_wp2_with fail
         refine (CN.out _ H2.out.st).mono ?_
         rintro e w3 ⟨rfl, m3⟩
         have H3 := kH (H2.out.trans m3)
         clear m3
         unfold tokV
         go_wp2_with fail
         refine (D0.out _ H3.out.st).mono ?_
         rintro e w4 ⟨rfl, m4⟩
         have H4 := kH (H3.out.trans m4)
         clear m4
         go_wp2_with fail
         refine (D1.out _ H4.out.st).mono ?_
         rintro e w5 ⟨rfl, m5⟩
         have H5 := kH (H4.out.trans m5)
         clear m5
         go_wp2_with fail
         refine (D2.out _ H5.out.st).mono ?_
         rintro e w6 ⟨rfl, m6⟩
         have H6 := kH (H5.out.trans m6)
         clear m6
         go_wp2_with fail
         refine (D3.out _ H6.out.st).mono ?_
         rintro e w7 ⟨rfl, m7⟩
         have H7 := kH (H6.out.trans m7)
         clear m7
         go_wp2_with fail
         go_ret
         rw [HX.out]
         exact ⟨rfl, HBE.out.trans (Onl.below H7.out.2 (Nat.le_refl _) HBE.out.size)⟩
        ·
         have HX : Hid (bracketP (l.length + 1) l 0 = targB (nx l1)) := kH (by
          rw [HXB.out]
          have e1 : ¬ (tk (nx l1)).k = 1 := by omega
          have e0 : ¬ (tk (nx l1)).k = 0 := by omega
          simp [behB, e1, e0, t2, t3])
         have D0 := kH (CKN.out 1)
         rw [decide_eq_false t0] at D0
         have D1 := kH (CKN.out 0)
         rw [decide_eq_false t1] at D1
         have D2 := kH (CCN.out [59])
         rw [decide_eq_false t2] at D2
         have D3 := kH (CCN.out [125])
         rw [decide_eq_false t3] at D3
         clear HXB t0 t1 t2 t3 hz
         go_wp2_with fail
         refine (CK0.out _ H0.out.st).mono ?_
         rintro e w1 ⟨rfl, m1⟩
         have H1 := kH (H0.out.trans m1)
         clear m1
         go_wp2_with fail
         refine (CF.out _ H1.out.st).mono ?_
         rintro e w2 ⟨rfl, m2⟩
         have H2 := kH (H1.out.trans m2)
         clear m2
         go_wp2_with fail
         refine (CN.out _ H2.out.st).mono ?_
         rintro e w3 ⟨rfl, m3⟩
         have H3 := kH (H2.out.trans m3)
         clear m3
         unfold tokV
         go_wp2_with fail
         refine (D0.out _ H3.out.st).mono ?_
         rintro e w4 ⟨rfl, m4⟩
         have H4 := kH (H3.out.trans m4)
         clear m4
         go_wp2_with fail
         refine (D1.out _ H4.out.st).mono ?_
         rintro e w5 ⟨rfl, m5⟩
         have H5 := kH (H4.out.trans m5)
         clear m5
         go_wp2_with fail
         refine (D2.out _ H5.out.st).mono ?_
         rintro e w6 ⟨rfl, m6⟩
         have H6 := kH (H5.out.trans m6)
         clear m6
         go_wp2_with fail
         refine (D3.out _ H6.out.st).mono ?_
         rintro e w7 ⟨rfl, m7⟩
         have H7 := kH (H6.out.trans m7)
         clear m7
         go_wp2_with fail
         refine (CTN.out _ H7.out.st).mono ?_
         rintro e w8 ⟨rfl, m8⟩
         have H8 := kH (H7.out.trans m8)
         clear m8
         go_wp2_with fail
         go_ret
         rw [HX.out]
         exact ⟨rfl, HBE.out.trans (Onl.below H8.out.2 (Nat.le_refl _) HBE.out.size)⟩
    ·
     have hz2 : ((k + 1 : Int) == 0) = false := by rw [beq_eq_false_iff_ne]; exact hz
     have HXR : Hid (gk - 1 < gk ∧ (nx l1).length ≤ gk - 1 ∧ (nx l1).length < f ∧ -(6000 : Int) + (nx l1).length ≤ k + 1 ∧ k + 1 + (nx l1).length ≤ 6000 ∧ bracketP f (nx l1) (k + 1) = bracketP (l.length + 1) l 0) := kH ⟨by omega, by omega, by omega, by omega, by omega, by rw [← heq, if_neg hz]⟩
     clear heq hgk hf hst hbel hlt hS HS h0 hlp hz
     go_wp2_with fail
     refine (CK0.out _ H0.out.st).mono ?_
     rintro e w1 ⟨rfl, m1⟩
     have H1 := kH (H0.out.trans m1)
     clear m1
     go_wp2_with fail
     refine (CF.out _ H1.out.st).mono ?_
     rintro e w2 ⟨rfl, m2⟩
     have H2 := kH (H1.out.trans m2)
     clear m2
     go_wp2_with fail
     refine (CN.out _ H2.out.st).mono ?_
     rintro e w3 ⟨rfl, m3⟩
     have H3 := kH (H2.out.trans m3)
     clear m3
     unfold tokV
     go_wp2_with fail
     go_roundg (gk - 1)
     case measure => exact HXR.out.1
     case rel => exact ⟨_, rfl, kH ⟨nx l1, f, HXR.out.2.1, HXR.out.2.2.1, HXR.out.2.2.2.1, HXR.out.2.2.2.2.1, HXR.out.2.2.2.2.2, H3.out.1, HBE.out.trans (Onl.below H3.out.2 (Nat.le_refl _) HBE.out.size)⟩⟩
   ·
    by_cases h2 : S = [41]
    ·
     subst h2
     rw [if_neg (show ¬ ([41] : List UInt8) = [40] from by decide), if_pos (rfl : ([41] : List UInt8) = [41])] at heq
     clear h1
     have hkb1 : (-(9223372036854775808) : Int) ≤ k - 1 := by omega
     have hkb2 : k - 1 ≤ 9223372036854775807 := by omega
     by_cases hz : (k - 1 : Int) = 0
     ·
      have hz2 : ((k - 1 : Int) == 0) = true := by rw [beq_iff_eq]; exact hz
      have HXB : Hid (bracketP (l.length + 1) l 0 = behB (nx l1)) := kH (by rw [← heq, if_pos hz])
      clear heq hgk hf hst hbel hlt hS HS h0 hlp
      by_cases t0 : ((tk (nx l1)).k : Int) = 1
      ·
       have HX : Hid (bracketP (l.length + 1) l 0 = true) := kH (by
        rw [HXB.out]
        have e1 : (tk (nx l1)).k = 1 := by omega
        simp [behB, e1])
       have D0 := kH (CKN.out 1)
       rw [decide_eq_true t0] at D0
       clear HXB t0 hz
       go_wp2_with fail
       refine (CK0.out _ H0.out.st).mono ?_
       rintro e w1 ⟨rfl, m1⟩
       have H1 := kH (H0.out.trans m1)
       clear m1
       go_wp2_with fail
       refine (CF.out _ H1.out.st).mono ?_
       rintro e w2 ⟨rfl, m2⟩
       have H2 := kH (H1.out.trans m2)
       clear m2
       go_wp2_with fail
       refine (CN.out _ H2.out.st).mono ?_
       rintro e w3 ⟨rfl, m3⟩
       have H3 := kH (H2.out.trans m3)
       clear m3
       unfold tokV
       go_wp2_with fail
       refine (D0.out _ H3.out.st).mono ?_
       rintro e w4 ⟨rfl, m4⟩
       have H4 := kH (H3.out.trans m4)
       clear m4
       go_wp2_with fail
       go_ret
       rw [HX.out]
       exact ⟨rfl, HBE.out.trans (Onl.below H4.out.2 (Nat.le_refl _) HBE.out.size)⟩
      ·
       by_cases t1 : ((tk (nx l1)).k : Int) = 0
       ·
        have HX : Hid (bracketP (l.length + 1) l 0 = true) := kH (by
         rw [HXB.out]
         have e0 : (tk (nx l1)).k = 0 := by omega
         simp [behB, e0])
        have D0 := kH (CKN.out 1)
        rw [decide_eq_false t0] at D0
        have D1 := kH (CKN.out 0)
        rw [decide_eq_true t1] at D1
        clear HXB t0 t1 hz
        go_wp2_with fail
        refine (CK0.out _ H0.out.st).mono ?_
        rintro e w1 ⟨rfl, m1⟩
        have H1 := kH (H0.out.trans m1)
        clear m1
        go_wp2_with fail
        refine (CF.out _ H1.out.st).mono ?_
        rintro e w2 ⟨rfl, m2⟩
        have H2 := kH (H1.out.trans m2)
        clear m2
        go_wp2_with fail
        refine (CN.out _ H2.out.st).mono ?_
        rintro e w3 ⟨rfl, m3⟩
        have H3 := kH (H2.out.trans m3)
        clear m3
        unfold tokV
        go_wp2_with fail
        refine (D0.out _ H3.out.st).mono ?_
        rintro e w4 ⟨rfl, m4⟩
        have H4 := kH (H3.out.trans m4)
        clear m4
        go_wp2_with fail
        refine (D1.out _ H4.out.st).mono ?_
        rintro e w5 ⟨rfl, m5⟩
        have H5 := kH (H4.out.trans m5)
        clear m5
        go_wp2_with fail
        go_ret
        rw [HX.out]
        exact ⟨rfl, HBE.out.trans (Onl.below H5.out.2 (Nat.le_refl _) HBE.out.size)⟩
       ·
        by_cases t2 : fx (nx l1) = [59]
        ·
         have HX : Hid (bracketP (l.length + 1) l 0 = true) := kH (by
          rw [HXB.out]
          simp [behB, t2])
         have D0 := kH (CKN.out 1)
         rw [decide_eq_false t0] at D0
         have D1 := kH (CKN.out 0)
         rw [decide_eq_false t1] at D1
         have D2 := kH (CCN.out [59])
         rw [decide_eq_true t2] at D2
         clear HXB t0 t1 t2 hz
         go_wp2_with fail
         refine (CK0.out _ H0.out.st).mono ?_
         rintro e w1 ⟨rfl, m1⟩
         have H1 := kH (H0.out.trans m1)
         clear m1
         go_wp2_with fail
         refine (CF.out _ H1.out.st).mono ?_
         rintro e w2 ⟨rfl, m2⟩
         have H2 := kH (H1.out.trans m2)
         clear m2
         go_wp2_with fail
         refine (CN.out _ H2.out.st).mono ?_
         rintro e w3 ⟨rfl, m3⟩
         have H3 := kH (H2.out.trans m3)
         clear m3
         unfold tokV
         go_wp2_with fail
         refine (D0.out _ H3.out.st).mono ?_
         rintro e w4 ⟨rfl, m4⟩
         have H4 := kH (H3.out.trans m4)
         clear m4
         go_wp2_with fail
         refine (D1.out _ H4.out.st).mono ?_
         rintro e w5 ⟨rfl, m5⟩
         have H5 := kH (H4.out.trans m5)
         clear m5
         go_wp2_with fail
         refine (D2.out _ H5.out.st).mono ?_
         rintro e w6 ⟨rfl, m6⟩
         have H6 := kH (H5.out.trans m6)
         clear m6
         go_wp2_with fail
         go_ret
         rw [HX.out]
         exact ⟨rfl, HBE.out.trans (Onl.below H6.out.2 (Nat.le_refl _) HBE.out.size)⟩
        ·
         by_cases t3 : fx (nx l1) = [125]
         ·
          have HX : Hid (bracketP (l.length + 1) l 0 = true) := kH (by
           rw [HXB.out]
           simp [behB, t3])
          have D0 := kH (CKN.out 1)
          rw [decide_eq_false t0] at D0
          have D1 := kH (CKN.out 0)
          rw [decide_eq_false t1] at D1
          have D2 := kH (CCN.out [59])
          rw [decide_eq_false t2] at D2
          have D3 := kH (CCN.out [125])
          rw [decide_eq_true t3] at D3
          clear HXB t0 t1 t2 t3 hz
          go_wp2_with fail
          refine (CK0.out _ H0.out.st).mono ?_
          rintro e w1 ⟨rfl, m1⟩
          have H1 := kH (H0.out.trans m1)
          clear m1
          go_wp2_with fail
          refine (CF.out _ H1.out.st).mono ?_
          rintro e w2 ⟨rfl, m2⟩
          have H2 := kH (H1.out.trans m2)
          clear m2
          go_wp2_with fail
          refine (CN.out _ H2.out.st).mono ?_
          rintro e w3 ⟨rfl, m3⟩
          have H3 := kH (H2.out.trans m3)
          clear m3
          unfold tokV
          go_wp2_with fail
          refine (D0.out _ H3.out.st).mono ?_
          rintro e w4 ⟨rfl, m4⟩
          have H4 := kH (H3.out.trans m4)
          clear m4
          go_wp2_with fail
          refine (D1.out _ H4.out.st).mono ?_
          rintro e w5 ⟨rfl, m5⟩
          have H5 := kH (H4.out.trans m5)
          clear m5
          go_wp2_with fail
          refine (D2.out _ H5.out.st).mono ?_
          rintro e w6 ⟨rfl, m6⟩
          have H6 := kH (H5.out.trans m6)
          clear m6
          go_wp2_with fail
          refine (D3.out _ H6.out.st).mono ?_
          rintro e w7 ⟨rfl, m7⟩
          have H7 := kH (H6.out.trans m7)
          clear m7
          go_wp2_with fail
          go_ret
          rw [HX.out]
          exact ⟨rfl, HBE.out.trans (Onl.below H7.out.2 (Nat.le_refl _) HBE.out.size)⟩
         ·
          have HX : Hid (bracketP (l.length + 1) l 0 = targB (nx l1)) := kH (by
           rw [HXB.out]
           have e1 : ¬ (tk (nx l1)).k = 1 := by omega
           have e0 : ¬ (tk (nx l1)).k = 0 := by omega
           simp [behB, e1, e0, t2, t3])
          have D0 := kH (CKN.out 1)
          rw [decide_eq_false t0] at D0
          have D1 := kH (CKN.out 0)
          rw [decide_eq_false t1] at D1
          have D2 := kH (CCN.out [59])
          rw [decide_eq_false t2] at D2
          have D3 := kH (CCN.out [125])
          rw [decide_eq_false t3] at D3
          clear HXB t0 t1 t2 t3 hz
          go_wp2_with fail
          refine (CK0.out _ H0.out.st).mono ?_
          rintro e w1 ⟨rfl, m1⟩
          have H1 := kH (H0.out.trans m1)
          clear m1
          go_wp2_with fail
          refine (CF.out _ H1.out.st).mono ?_
          rintro e w2 ⟨rfl, m2⟩
          have H2 := kH (H1.out.trans m2)
          clear m2
          go_wp2_with fail
          refine (CN.out _ H2.out.st).mono ?_
          rintro e w3 ⟨rfl, m3⟩
          have H3 := kH (H2.out.trans m3)
          clear m3
          unfold tokV
          go_wp2_with fail
          refine (D0.out _ H3.out.st).mono ?_
          rintro e w4 ⟨rfl, m4⟩
          have H4 := kH (H3.out.trans m4)
          clear m4
          go_wp2_with fail
          refine (D1.out _ H4.out.st).mono ?_
          rintro e w5 ⟨rfl, m5⟩
          have H5 := kH (H4.out.trans m5)
          clear m5
          go_wp2_with fail
          refine (D2.out _ H5.out.st).mono ?_
          rintro e w6 ⟨rfl, m6⟩
          have H6 := kH (H5.out.trans m6)
          clear m6
          go_wp2_with fail
          refine (D3.out _ H6.out.st).mono ?_
          rintro e w7 ⟨rfl, m7⟩
          have H7 := kH (H6.out.trans m7)
          clear m7
          go_wp2_with fail
          refine (CTN.out _ H7.out.st).mono ?_
          rintro e w8 ⟨rfl, m8⟩
          have H8 := kH (H7.out.trans m8)
          clear m8
          go_wp2_with fail
          go_ret
          rw [HX.out]
          exact ⟨rfl, HBE.out.trans (Onl.below H8.out.2 (Nat.le_refl _) HBE.out.size)⟩
     ·
      have hz2 : ((k - 1 : Int) == 0) = false := by rw [beq_eq_false_iff_ne]; exact hz
      have HXR : Hid (gk - 1 < gk ∧ (nx l1).length ≤ gk - 1 ∧ (nx l1).length < f ∧ -(6000 : Int) + (nx l1).length ≤ k - 1 ∧ k - 1 + (nx l1).length ≤ 6000 ∧ bracketP f (nx l1) (k - 1) = bracketP (l.length + 1) l 0) := kH ⟨by omega, by omega, by omega, by omega, by omega, by rw [← heq, if_neg hz]⟩
      clear heq hgk hf hst hbel hlt hS HS h0 hlp hz
      go_wp2_with fail
      refine (CK0.out _ H0.out.st).mono ?_
      rintro e w1 ⟨rfl, m1⟩
      have H1 := kH (H0.out.trans m1)
      clear m1
      go_wp2_with fail
      refine (CF.out _ H1.out.st).mono ?_
      rintro e w2 ⟨rfl, m2⟩
      have H2 := kH (H1.out.trans m2)
      clear m2
      go_wp2_with fail
      refine (CN.out _ H2.out.st).mono ?_
      rintro e w3 ⟨rfl, m3⟩
      have H3 := kH (H2.out.trans m3)
      clear m3
      unfold tokV
      go_wp2_with fail
      go_roundg (gk - 1)
      case measure => exact HXR.out.1
      case rel => exact ⟨_, rfl, kH ⟨nx l1, f, HXR.out.2.1, HXR.out.2.2.1, HXR.out.2.2.2.1, HXR.out.2.2.2.2.1, HXR.out.2.2.2.2.2, H3.out.1, HBE.out.trans (Onl.below H3.out.2 (Nat.le_refl _) HBE.out.size)⟩⟩
    ·
     rw [if_neg h1, if_neg h2] at heq
     have g1 : (S == [40]) = false := by rw [beq_eq_false_iff_ne]; exact h1
     have g2 : (S == [41]) = false := by rw [beq_eq_false_iff_ne]; exact h2
     clear h1 h2
     have hkb1 : (-(9223372036854775808) : Int) ≤ k := by omega
     have hkb2 : k ≤ 9223372036854775807 := by omega
     by_cases hz : (k : Int) = 0
     ·
      have hz2 : ((k : Int) == 0) = true := by rw [beq_iff_eq]; exact hz
      have HXB : Hid (bracketP (l.length + 1) l 0 = behB (nx l1)) := kH (by rw [← heq, if_pos hz])
      clear heq hgk hf hst hbel hlt hS HS h0 hlp
      by_cases t0 : ((tk (nx l1)).k : Int) = 1
      ·
       have HX : Hid (bracketP (l.length + 1) l 0 = true) := kH (by
        rw [HXB.out]
        have e1 : (tk (nx l1)).k = 1 := by omega
        simp [behB, e1])
       have D0 := kH (CKN.out 1)
       rw [decide_eq_true t0] at D0
       clear HXB t0 hz
       go_wp2_with fail
       refine (CK0.out _ H0.out.st).mono ?_
       rintro e w1 ⟨rfl, m1⟩
       have H1 := kH (H0.out.trans m1)
       clear m1
       go_wp2_with fail
       refine (CF.out _ H1.out.st).mono ?_
       rintro e w2 ⟨rfl, m2⟩
       have H2 := kH (H1.out.trans m2)
       clear m2
       go_wp2_with fail
       refine (CN.out _ H2.out.st).mono ?_
       rintro e w3 ⟨rfl, m3⟩
       have H3 := kH (H2.out.trans m3)
       clear m3
       unfold tokV
       go_wp2_with fail
       refine (D0.out _ H3.out.st).mono ?_
       rintro e w4 ⟨rfl, m4⟩
       have H4 := kH (H3.out.trans m4)
       clear m4
       go_wp2_with fail
       go_ret
       rw [HX.out]
       exact ⟨rfl, HBE.out.trans (Onl.below H4.out.2 (Nat.le_refl _) HBE.out.size)⟩
      ·
       by_cases t1 : ((tk (nx l1)).k : Int) = 0
       ·
        have HX : Hid (bracketP (l.length + 1) l 0 = true) := kH (by
         rw [HXB.out]
         have e0 : (tk (nx l1)).k = 0 := by omega
         simp [behB, e0])
        have D0 := kH (CKN.out 1)
        rw [decide_eq_false t0] at D0
        have D1 := kH (CKN.out 0)
        rw [decide_eq_true t1] at D1
        clear HXB t0 t1 hz
        go_wp2_with fail
        refine (CK0.out _ H0.out.st).mono ?_
        rintro e w1 ⟨rfl, m1⟩
        have H1 := kH (H0.out.trans m1)
        clear m1
        go_wp2_with fail
        refine (CF.out _ H1.out.st).mono ?_
        rintro e w2 ⟨rfl, m2⟩
        have H2 := kH (H1.out.trans m2)
        clear m2
        go_wp2_with fail
        refine (CN.out _ H2.out.st).mono ?_
        rintro e w3 ⟨rfl, m3⟩
        have H3 := kH (H2.out.trans m3)
        clear m3
        unfold tokV
        go_wp2_with fail
        refine (D0.out _ H3.out.st).mono ?_
        rintro e w4 ⟨rfl, m4⟩
        have H4 := kH (H3.out.trans m4)
        clear m4
        go_wp2_with fail
        refine (D1.out _ H4.out.st).mono ?_
        rintro e w5 ⟨rfl, m5⟩
        have H5 := kH (H4.out.trans m5)
        clear m5
        go_wp2_with fail
        go_ret
        rw [HX.out]
        exact ⟨rfl, HBE.out.trans (Onl.below H5.out.2 (Nat.le_refl _) HBE.out.size)⟩
       ·
        by_cases t2 : fx (nx l1) = [59]
        ·
         have HX : Hid (bracketP (l.length + 1) l 0 = true) := kH (by
          rw [HXB.out]
          simp [behB, t2])
         have D0 := kH (CKN.out 1)
         rw [decide_eq_false t0] at D0
         have D1 := kH (CKN.out 0)
         rw [decide_eq_false t1] at D1
         have D2 := kH (CCN.out [59])
         rw [decide_eq_true t2] at D2
         clear HXB t0 t1 t2 hz
         go_wp2_with fail
         refine (CK0.out _ H0.out.st).mono ?_
         rintro e w1 ⟨rfl, m1⟩
         have H1 := kH (H0.out.trans m1)
         clear m1
         go_wp2_with fail
         refine (CF.out _ H1.out.st).mono ?_
         rintro e w2 ⟨rfl, m2⟩
         have H2 := kH (H1.out.trans m2)
         clear m2
         go_wp2_with fail
         refine (CN.out _ H2.out.st).mono ?_
         rintro e w3 ⟨rfl, m3⟩
         have H3 := kH (H2.out.trans m3)
         clear m3
         unfold tokV
         go_wp2_with fail
         refine (D0.out _ H3.out.st).mono ?_
         rintro e w4 ⟨rfl, m4⟩
         have H4 := kH (H3.out.trans m4)
         clear m4
         go_wp2_with fail
         refine (D1.out _ H4.out.st).mono ?_
         rintro e w5 ⟨rfl, m5⟩
         have H5 := kH (H4.out.trans m5)
         clear m5
         go_wp2_with fail
         refine (D2.out _ H5.out.st).mono ?_
         rintro e w6 ⟨rfl, m6⟩
         have H6 := kH (H5.out.trans m6)
         clear m6
         go_wp2_with fail
         go_ret
         rw [HX.out]
         exact ⟨rfl, HBE.out.trans (Onl.below H6.out.2 (Nat.le_refl _) HBE.out.size)⟩
        ·
         by_cases t3 : fx (nx l1) = [125]
         ·
          have HX : Hid (bracketP (l.length + 1) l 0 = true) := kH (by
           rw [HXB.out]
           simp [behB, t3])
          have D0 := kH (CKN.out 1)
          rw [decide_eq_false t0] at D0
          have D1 := kH (CKN.out 0)
          rw [decide_eq_false t1] at D1
          have D2 := kH (CCN.out [59])
          rw [decide_eq_false t2] at D2
          have D3 := kH (CCN.out [125])
          rw [decide_eq_true t3] at D3
          clear HXB t0 t1 t2 t3 hz
          go_wp2_with fail
          refine (CK0.out _ H0.out.st).mono ?_
          rintro e w1 ⟨rfl, m1⟩
          have H1 := kH (H0.out.trans m1)
          clear m1
          go_wp2_with fail
          refine (CF.out _ H1.out.st).mono ?_
          rintro e w2 ⟨rfl, m2⟩
          have H2 := kH (H1.out.trans m2)
          clear m2
          go_wp2_with fail
          refine (CN.out _ H2.out.st).mono ?_
          rintro e w3 ⟨rfl, m3⟩
          have H3 := kH (H2.out.trans m3)
          clear m3
          unfold tokV
          go_wp2_with fail
          refine (D0.out _ H3.out.st).mono ?_
          rintro e w4 ⟨rfl, m4⟩
          have H4 := kH (H3.out.trans m4)
          clear m4
          go_wp2_with fail
          refine (D1.out _ H4.out.st).mono ?_
          rintro e w5 ⟨rfl, m5⟩
          have H5 := kH (H4.out.trans m5)
          clear m5
          go_wp2_with fail
          refine (D2.out _ H5.out.st).mono ?_
          rintro e w6 ⟨rfl, m6⟩
          have H6 := kH (H5.out.trans m6)
          clear m6
          go_wp2_with fail
          refine (D3.out _ H6.out.st).mono ?_
          rintro e w7 ⟨rfl, m7⟩
          have H7 := kH (H6.out.trans m7)
          clear m7
          go_wp2_with fail
          go_ret
          rw [HX.out]
          exact ⟨rfl, HBE.out.trans (Onl.below H7.out.2 (Nat.le_refl _) HBE.out.size)⟩
         ·
          have HX : Hid (bracketP (l.length + 1) l 0 = targB (nx l1)) := kH (by
           rw [HXB.out]
           have e1 : ¬ (tk (nx l1)).k = 1 := by omega
           have e0 : ¬ (tk (nx l1)).k = 0 := by omega
           simp [behB, e1, e0, t2, t3])
          have D0 := kH (CKN.out 1)
          rw [decide_eq_false t0] at D0
          have D1 := kH (CKN.out 0)
          rw [decide_eq_false t1] at D1
          have D2 := kH (CCN.out [59])
          rw [decide_eq_false t2] at D2
          have D3 := kH (CCN.out [125])
          rw [decide_eq_false t3] at D3
          clear HXB t0 t1 t2 t3 hz
          go_wp2_with fail
          refine (CK0.out _ H0.out.st).mono ?_
          rintro e w1 ⟨rfl, m1⟩
          have H1 := kH (H0.out.trans m1)
          clear m1
          go_wp2_with fail
          refine (CF.out _ H1.out.st).mono ?_
          rintro e w2 ⟨rfl, m2⟩
          have H2 := kH (H1.out.trans m2)
          clear m2
          go_wp2_with fail
          refine (CN.out _ H2.out.st).mono ?_
          rintro e w3 ⟨rfl, m3⟩
          have H3 := kH (H2.out.trans m3)
          clear m3
          unfold tokV
          go_wp2_with fail
          refine (D0.out _ H3.out.st).mono ?_
          rintro e w4 ⟨rfl, m4⟩
          have H4 := kH (H3.out.trans m4)
          clear m4
          go_wp2_with fail
          refine (D1.out _ H4.out.st).mono ?_
          rintro e w5 ⟨rfl, m5⟩
          have H5 := kH (H4.out.trans m5)
          clear m5
          go_wp2_with fail
          refine (D2.out _ H5.out.st).mono ?_
          rintro e w6 ⟨rfl, m6⟩
          have H6 := kH (H5.out.trans m6)
          clear m6
          go_wp2_with fail
          refine (D3.out _ H6.out.st).mono ?_
          rintro e w7 ⟨rfl, m7⟩
          have H7 := kH (H6.out.trans m7)
          clear m7
          go_wp2_with fail
          refine (CTN.out _ H7.out.st).mono ?_
          rintro e w8 ⟨rfl, m8⟩
          have H8 := kH (H7.out.trans m8)
          clear m8
          go_wp2_with fail
          go_ret
          rw [HX.out]
          exact ⟨rfl, HBE.out.trans (Onl.below H8.out.2 (Nat.le_refl _) HBE.out.size)⟩
     ·
      have hz2 : ((k : Int) == 0) = false := by rw [beq_eq_false_iff_ne]; exact hz
      have HXR : Hid (gk - 1 < gk ∧ (nx l1).length ≤ gk - 1 ∧ (nx l1).length < f ∧ -(6000 : Int) + (nx l1).length ≤ k ∧ k + (nx l1).length ≤ 6000 ∧ bracketP f (nx l1) (k) = bracketP (l.length + 1) l 0) := kH ⟨by omega, by omega, by omega, by omega, by omega, by rw [← heq, if_neg hz]⟩
      clear heq hgk hf hst hbel hlt hS HS h0 hlp hz
      go_wp2_with fail
      refine (CK0.out _ H0.out.st).mono ?_
      rintro e w1 ⟨rfl, m1⟩
      have H1 := kH (H0.out.trans m1)
      clear m1
      go_wp2_with fail
      refine (CF.out _ H1.out.st).mono ?_
      rintro e w2 ⟨rfl, m2⟩
      have H2 := kH (H1.out.trans m2)
      clear m2
      go_wp2_with fail
      refine (CN.out _ H2.out.st).mono ?_
      rintro e w3 ⟨rfl, m3⟩
      have H3 := kH (H2.out.trans m3)
      clear m3
      unfold tokV
      go_wp2_with fail
      go_roundg (gk - 1)
      case measure => exact HXR.out.1
      case rel => exact ⟨_, rfl, kH ⟨nx l1, f, HXR.out.2.1, HXR.out.2.2.1, HXR.out.2.2.2.1, HXR.out.2.2.2.2.1, HXR.out.2.2.2.2.2, H3.out.1, HBE.out.trans (Onl.below H3.out.2 (Nat.le_refl _) HBE.out.size)⟩⟩
end Go.Proofs.YtmbfdkiejneheaaGreatDoor
