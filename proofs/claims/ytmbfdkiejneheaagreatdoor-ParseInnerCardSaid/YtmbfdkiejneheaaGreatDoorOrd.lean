/-
 A LAW, of no program: a region that draws its order, whose stores wait for what it loads: a condition on the world that is asked for only as long as no store has come up. ('a, b = f(a), f(b)': loads, calls, then the stores, in whatever order.)
-/
import Derived.Test.YtmbfdkiejneheaaGreatDoorPaW2
import Derived.Deep.RegionHeld
namespace Go.Proofs.YtmbfdkiejneheaaGreatDoor
open Go.RowKit

set_option maxHeartbeats 4000000 in
set_option maxRecDepth 100000 in
theorem pstepc_any (K : Ps) (l : List Tok) (dp : Nat) (pr : Bool) (er : ErO) : MvC 122 [] K l dp pr er (.returned (.bool (stepB l))) l dp pr er := by
 intro w h
 have C0 := kH (pcomes_any K l dp pr er [43, 43])
 have C1 := kH (pcomes_any K l dp pr er [45, 45])
 have H0 := kH (Mv.refl h)
 clear h
 by_cases h0 : fx l = [43, 43]
 ·
  rw [show (stepB l) = true from by simp_all [stepB]]
  rw [decide_eq_true h0] at C0
  clear h0
  go_enter Tryz.func122, Tryz.ntmps122
  go_wp2_with fail
  refine (C0.out _ H0.out.st).mono ?_
  rintro e w1 ⟨rfl, m1⟩
  have H1 := kH (H0.out.trans m1)
  clear m1
  go_wp2_with fail
  go_ret
  exact ⟨rfl, H1.out⟩
 ·
  rw [decide_eq_false h0] at C0
  by_cases h1 : fx l = [45, 45]
  ·
   rw [show (stepB l) = true from by simp_all [stepB]]
   rw [decide_eq_true h1] at C1
   clear h0 h1
   go_enter Tryz.func122, Tryz.ntmps122
   go_wp2_with fail
   refine (C0.out _ H0.out.st).mono ?_
   rintro e w1 ⟨rfl, m1⟩
   have H1 := kH (H0.out.trans m1)
   clear m1
   go_wp2_with fail
   refine (C1.out _ H1.out.st).mono ?_
   rintro e w2 ⟨rfl, m2⟩
   have H2 := kH (H1.out.trans m2)
   clear m2
   go_wp2_with fail
   go_ret
   exact ⟨rfl, H2.out⟩
  ·
   rw [show (stepB l) = false from by simp_all [stepB]]
   rw [decide_eq_false h1] at C1
   clear h0 h1
   go_enter Tryz.func122, Tryz.ntmps122
   go_wp2_with fail
   refine (C0.out _ H0.out.st).mono ?_
   rintro e w1 ⟨rfl, m1⟩
   have H1 := kH (H0.out.trans m1)
   clear m1
   go_wp2_with fail
   refine (C1.out _ H1.out.st).mono ?_
   rintro e w2 ⟨rfl, m2⟩
   have H2 := kH (H1.out.trans m2)
   clear m2
   go_wp2_with fail
   go_ret
   exact ⟨rfl, H2.out⟩
set_option maxHeartbeats 4000000 in
set_option maxRecDepth 100000 in
theorem ptargc_any (K : Ps) (l : List Tok) (dp : Nat) (pr : Bool) (er : ErO) : MvC 108 [] K l dp pr er (.returned (.bool (targB l))) l dp pr er := by
 intro w h
 have C0 := kH (pcomes_any K l dp pr er [62])
 have C1 := kH (pcomes_any K l dp pr er [62, 62])
 have H0 := kH (Mv.refl h)
 clear h
 by_cases h0 : fx l = [62]
 ·
  rw [show (targB l) = true from by simp_all [targB]]
  rw [decide_eq_true h0] at C0
  clear h0
  go_enter Tryz.func108, Tryz.ntmps108
  go_wp2_with fail
  refine (C0.out _ H0.out.st).mono ?_
  rintro e w1 ⟨rfl, m1⟩
  have H1 := kH (H0.out.trans m1)
  clear m1
  go_wp2_with fail
  go_ret
  exact ⟨rfl, H1.out⟩
 ·
  rw [decide_eq_false h0] at C0
  by_cases h1 : fx l = [62, 62]
  ·
   rw [show (targB l) = true from by simp_all [targB]]
   rw [decide_eq_true h1] at C1
   clear h0 h1
   go_enter Tryz.func108, Tryz.ntmps108
   go_wp2_with fail
   refine (C0.out _ H0.out.st).mono ?_
   rintro e w1 ⟨rfl, m1⟩
   have H1 := kH (H0.out.trans m1)
   clear m1
   go_wp2_with fail
   refine (C1.out _ H1.out.st).mono ?_
   rintro e w2 ⟨rfl, m2⟩
   have H2 := kH (H1.out.trans m2)
   clear m2
   go_wp2_with fail
   go_ret
   exact ⟨rfl, H2.out⟩
  ·
   rw [show (targB l) = false from by simp_all [targB]]
   rw [decide_eq_false h1] at C1
   clear h0 h1
   go_enter Tryz.func108, Tryz.ntmps108
   go_wp2_with fail
   refine (C0.out _ H0.out.st).mono ?_
   rintro e w1 ⟨rfl, m1⟩
   have H1 := kH (H0.out.trans m1)
   clear m1
   go_wp2_with fail
   refine (C1.out _ H1.out.st).mono ?_
   rintro e w2 ⟨rfl, m2⟩
   have H2 := kH (H1.out.trans m2)
   clear m2
   go_wp2_with fail
   go_ret
   exact ⟨rfl, H2.out⟩
set_option maxHeartbeats 4000000 in
set_option maxRecDepth 100000 in
theorem pends_any (K : Ps) (l : List Tok) (dp : Nat) (pr : Bool) (er : ErO) : MvC 85 [] K l dp pr er (.returned (.bool (endB l))) l dp pr er := by
 intro w h
 have C0 := kH (pkind_any K l dp pr er 1)
 have C1 := kH (pkind_any K l dp pr er 0)
 have C2 := kH (pcomes_any K l dp pr er [59])
 have C3 := kH (pcomes_any K l dp pr er [125])
 have C4 := kH (pcomes_any K l dp pr er [41])
 have H0 := kH (Mv.refl h)
 clear h
 by_cases h0 : ((tk l).k : Int) = 1
 ·
  rw [show (endB l) = true from by (have e1 : ((tk l).k : Int) = 1 ↔ (tk l).k = 1 := by omega); (have e0 : ((tk l).k : Int) = 0 ↔ (tk l).k = 0 := by omega); simp_all [endB]]
  rw [decide_eq_true h0] at C0
  clear h0
  go_enter Tryz.func85, Tryz.ntmps85
  go_wp2_with fail
  refine (C0.out _ H0.out.st).mono ?_
  rintro e w1 ⟨rfl, m1⟩
  have H1 := kH (H0.out.trans m1)
  clear m1
  go_wp2_with fail
  go_ret
  exact ⟨rfl, H1.out⟩
 ·
  rw [decide_eq_false h0] at C0
  by_cases h1 : ((tk l).k : Int) = 0
  ·
   rw [show (endB l) = true from by (have e1 : ((tk l).k : Int) = 1 ↔ (tk l).k = 1 := by omega); (have e0 : ((tk l).k : Int) = 0 ↔ (tk l).k = 0 := by omega); simp_all [endB]]
   rw [decide_eq_true h1] at C1
   clear h0 h1
   go_enter Tryz.func85, Tryz.ntmps85
   go_wp2_with fail
   refine (C0.out _ H0.out.st).mono ?_
   rintro e w1 ⟨rfl, m1⟩
   have H1 := kH (H0.out.trans m1)
   clear m1
   go_wp2_with fail
   refine (C1.out _ H1.out.st).mono ?_
   rintro e w2 ⟨rfl, m2⟩
   have H2 := kH (H1.out.trans m2)
   clear m2
   go_wp2_with fail
   go_ret
   exact ⟨rfl, H2.out⟩
  ·
   rw [decide_eq_false h1] at C1
   by_cases h2 : fx l = [59]
   ·
    rw [show (endB l) = true from by (have e1 : ((tk l).k : Int) = 1 ↔ (tk l).k = 1 := by omega); (have e0 : ((tk l).k : Int) = 0 ↔ (tk l).k = 0 := by omega); simp_all [endB]]
    rw [decide_eq_true h2] at C2
    clear h0 h1 h2
    go_enter Tryz.func85, Tryz.ntmps85
    go_wp2_with fail
    refine (C0.out _ H0.out.st).mono ?_
    rintro e w1 ⟨rfl, m1⟩
    have H1 := kH (H0.out.trans m1)
    clear m1
    go_wp2_with fail
    refine (C1.out _ H1.out.st).mono ?_
    rintro e w2 ⟨rfl, m2⟩
    have H2 := kH (H1.out.trans m2)
    clear m2
    go_wp2_with fail
    refine (C2.out _ H2.out.st).mono ?_
    rintro e w3 ⟨rfl, m3⟩
    have H3 := kH (H2.out.trans m3)
    clear m3
    go_wp2_with fail
    go_ret
    exact ⟨rfl, H3.out⟩
   ·
    rw [decide_eq_false h2] at C2
    by_cases h3 : fx l = [125]
    ·
     rw [show (endB l) = true from by (have e1 : ((tk l).k : Int) = 1 ↔ (tk l).k = 1 := by omega); (have e0 : ((tk l).k : Int) = 0 ↔ (tk l).k = 0 := by omega); simp_all [endB]]
     rw [decide_eq_true h3] at C3
     clear h0 h1 h2 h3
     go_enter Tryz.func85, Tryz.ntmps85
     go_wp2_with fail
     refine (C0.out _ H0.out.st).mono ?_
     rintro e w1 ⟨rfl, m1⟩
     have H1 := kH (H0.out.trans m1)
     clear m1
     go_wp2_with fail
     refine (C1.out _ H1.out.st).mono ?_
     rintro e w2 ⟨rfl, m2⟩
     have H2 := kH (H1.out.trans m2)
     clear m2
     go_wp2_with fail
     refine (C2.out _ H2.out.st).mono ?_
     rintro e w3 ⟨rfl, m3⟩
     have H3 := kH (H2.out.trans m3)
     clear m3
     go_wp2_with fail
     refine (C3.out _ H3.out.st).mono ?_
     rintro e w4 ⟨rfl, m4⟩
     have H4 := kH (H3.out.trans m4)
     clear m4
     go_wp2_with fail
     go_ret
     exact ⟨rfl, H4.out⟩
    ·
     rw [decide_eq_false h3] at C3
     by_cases h4 : fx l = [41]
     ·
      rw [show (endB l) = true from by (have e1 : ((tk l).k : Int) = 1 ↔ (tk l).k = 1 := by omega); (have e0 : ((tk l).k : Int) = 0 ↔ (tk l).k = 0 := by omega); simp_all [endB]]
      rw [decide_eq_true h4] at C4
      clear h0 h1 h2 h3 h4
      go_enter Tryz.func85, Tryz.ntmps85
      go_wp2_with fail
      refine (C0.out _ H0.out.st).mono ?_
      rintro e w1 ⟨rfl, m1⟩
      have H1 := kH (H0.out.trans m1)
      clear m1
      go_wp2_with fail
      refine (C1.out _ H1.out.st).mono ?_
      rintro e w2 ⟨rfl, m2⟩
      have H2 := kH (H1.out.trans m2)
      clear m2
      go_wp2_with fail
      refine (C2.out _ H2.out.st).mono ?_
      rintro e w3 ⟨rfl, m3⟩
      have H3 := kH (H2.out.trans m3)
      clear m3
      go_wp2_with fail
      refine (C3.out _ H3.out.st).mono ?_
      rintro e w4 ⟨rfl, m4⟩
      have H4 := kH (H3.out.trans m4)
      clear m4
      go_wp2_with fail
      refine (C4.out _ H4.out.st).mono ?_
      rintro e w5 ⟨rfl, m5⟩
      have H5 := kH (H4.out.trans m5)
      clear m5
      go_wp2_with fail
      go_ret
      exact ⟨rfl, H5.out⟩
     ·
      rw [show (endB l) = false from by (have e1 : ((tk l).k : Int) = 1 ↔ (tk l).k = 1 := by omega); (have e0 : ((tk l).k : Int) = 0 ↔ (tk l).k = 0 := by omega); simp_all [endB]]
      rw [decide_eq_false h4] at C4
      clear h0 h1 h2 h3 h4
      go_enter Tryz.func85, Tryz.ntmps85
      go_wp2_with fail
      refine (C0.out _ H0.out.st).mono ?_
      rintro e w1 ⟨rfl, m1⟩
      have H1 := kH (H0.out.trans m1)
      clear m1
      go_wp2_with fail
      refine (C1.out _ H1.out.st).mono ?_
      rintro e w2 ⟨rfl, m2⟩
      have H2 := kH (H1.out.trans m2)
      clear m2
      go_wp2_with fail
      refine (C2.out _ H2.out.st).mono ?_
      rintro e w3 ⟨rfl, m3⟩
      have H3 := kH (H2.out.trans m3)
      clear m3
      go_wp2_with fail
      refine (C3.out _ H3.out.st).mono ?_
      rintro e w4 ⟨rfl, m4⟩
      have H4 := kH (H3.out.trans m4)
      clear m4
      go_wp2_with fail
      refine (C4.out _ H4.out.st).mono ?_
      rintro e w5 ⟨rfl, m5⟩
      have H5 := kH (H4.out.trans m5)
      clear m5
      go_wp2_with fail
      go_ret
      exact ⟨rfl, H5.out⟩
set_option maxHeartbeats 4000000 in
set_option maxRecDepth 100000 in
theorem pvalc_any (K : Ps) (l : List Tok) (dp : Nat) (pr : Bool) (er : ErO) : MvC 116 [] K l dp pr er (.returned (.bool (valueB l))) l dp pr er := by
 intro w h
 have C0 := kH (ptok_any K l dp pr er)
 have C1 := kH (pcomes_any K l dp pr er [36])
 have C2 := kH (pcomes_any K l dp pr er [40])
 have hf := Tryz.fldK (tk l).k (tk l).a ⟨(tk l).t.toArray⟩
 have H0 := kH (Mv.refl h)
 clear h
 by_cases h2 : (tk l).k = 2
 ·
  rw [show (valueB l) = true from by simp [valueB, h2]]
  have g2 : ((((tk l).k : Nat) : Int) == 2) = true := by simp [h2]
  clear h2
  go_enter Tryz.func116, Tryz.ntmps116
  go_wp2_with fail
  refine (C0.out _ H0.out.st).mono ?_
  rintro e w1 ⟨rfl, m1⟩
  have H1 := kH (H0.out.trans m1)
  clear m1
  unfold tokV
  go_wp2_with fail
  go_ret
  exact ⟨rfl, H1.out⟩
 ·
  by_cases h3 : (tk l).k = 3
  ·
   rw [show (valueB l) = true from by simp [valueB, h3]]
   have g2 : ((((tk l).k : Nat) : Int) == 2) = false := by simp [h3]
   have g3 : ((((tk l).k : Nat) : Int) == 3) = true := by simp [h3]
   clear h2 h3
   go_enter Tryz.func116, Tryz.ntmps116
   go_wp2_with fail
   refine (C0.out _ H0.out.st).mono ?_
   rintro e w1 ⟨rfl, m1⟩
   have H1 := kH (H0.out.trans m1)
   clear m1
   unfold tokV
   go_wp2_with fail
   go_ret
   exact ⟨rfl, H1.out⟩
  ·
   by_cases h5 : (tk l).k = 5
   ·
    rw [show (valueB l) = true from by simp [valueB, h5]]
    have g2 : ((((tk l).k : Nat) : Int) == 2) = false := by simp [h5]
    have g3 : ((((tk l).k : Nat) : Int) == 3) = false := by simp [h5]
    have g5 : ((((tk l).k : Nat) : Int) == 5) = true := by simp [h5]
    clear h2 h3 h5
    go_enter Tryz.func116, Tryz.ntmps116
    go_wp2_with fail
    refine (C0.out _ H0.out.st).mono ?_
    rintro e w1 ⟨rfl, m1⟩
    have H1 := kH (H0.out.trans m1)
    clear m1
    unfold tokV
    go_wp2_with fail
    go_ret
    exact ⟨rfl, H1.out⟩
   ·
    by_cases h6 : (tk l).k = 6
    ·
     rw [show (valueB l) = true from by simp [valueB, h6]]
     have g2 : ((((tk l).k : Nat) : Int) == 2) = false := by simp [h6]
     have g3 : ((((tk l).k : Nat) : Int) == 3) = false := by simp [h6]
     have g5 : ((((tk l).k : Nat) : Int) == 5) = false := by simp [h6]
     have g6 : ((((tk l).k : Nat) : Int) == 6) = true := by simp [h6]
     clear h2 h3 h5 h6
     go_enter Tryz.func116, Tryz.ntmps116
     go_wp2_with fail
     refine (C0.out _ H0.out.st).mono ?_
     rintro e w1 ⟨rfl, m1⟩
     have H1 := kH (H0.out.trans m1)
     clear m1
     unfold tokV
     go_wp2_with fail
     go_ret
     exact ⟨rfl, H1.out⟩
    ·
     by_cases h9 : (tk l).k = 9
     ·
      rw [show (valueB l) = true from by simp [valueB, h9]]
      have g2 : ((((tk l).k : Nat) : Int) == 2) = false := by simp [h9]
      have g3 : ((((tk l).k : Nat) : Int) == 3) = false := by simp [h9]
      have g5 : ((((tk l).k : Nat) : Int) == 5) = false := by simp [h9]
      have g6 : ((((tk l).k : Nat) : Int) == 6) = false := by simp [h9]
      have g9 : ((((tk l).k : Nat) : Int) == 9) = true := by simp [h9]
      clear h2 h3 h5 h6 h9
      go_enter Tryz.func116, Tryz.ntmps116
      go_wp2_with fail
      refine (C0.out _ H0.out.st).mono ?_
      rintro e w1 ⟨rfl, m1⟩
      have H1 := kH (H0.out.trans m1)
      clear m1
      unfold tokV
      go_wp2_with fail
      go_ret
      exact ⟨rfl, H1.out⟩
     ·
      by_cases hd : fx l = [36]
      ·
       rw [decide_eq_true hd] at C1
       rw [show (valueB l) = true from by simp_all [valueB]]
       have g2 : ((((tk l).k : Nat) : Int) == 2) = false := by rw [Bool.eq_false_iff]; simp; omega
       have g3 : ((((tk l).k : Nat) : Int) == 3) = false := by rw [Bool.eq_false_iff]; simp; omega
       have g5 : ((((tk l).k : Nat) : Int) == 5) = false := by rw [Bool.eq_false_iff]; simp; omega
       have g6 : ((((tk l).k : Nat) : Int) == 6) = false := by rw [Bool.eq_false_iff]; simp; omega
       have g9 : ((((tk l).k : Nat) : Int) == 9) = false := by rw [Bool.eq_false_iff]; simp; omega
       clear h2 h3 h5 h6 h9 hd
       go_enter Tryz.func116, Tryz.ntmps116
       go_wp2_with fail
       refine (C0.out _ H0.out.st).mono ?_
       rintro e w1 ⟨rfl, m1⟩
       have H1 := kH (H0.out.trans m1)
       clear m1
       unfold tokV
       go_wp2_with fail
       refine (C1.out _ H1.out.st).mono ?_
       rintro e w2 ⟨rfl, m2⟩
       have H2 := kH (H1.out.trans m2)
       clear m2
       go_wp2_with fail
       go_ret
       exact ⟨rfl, H2.out⟩
      ·
       rw [decide_eq_false hd] at C1
       by_cases hp : fx l = [40]
       ·
        rw [decide_eq_true hp] at C2
        rw [show (valueB l) = true from by simp_all [valueB]]
        have g2 : ((((tk l).k : Nat) : Int) == 2) = false := by rw [Bool.eq_false_iff]; simp; omega
        have g3 : ((((tk l).k : Nat) : Int) == 3) = false := by rw [Bool.eq_false_iff]; simp; omega
        have g5 : ((((tk l).k : Nat) : Int) == 5) = false := by rw [Bool.eq_false_iff]; simp; omega
        have g6 : ((((tk l).k : Nat) : Int) == 6) = false := by rw [Bool.eq_false_iff]; simp; omega
        have g9 : ((((tk l).k : Nat) : Int) == 9) = false := by rw [Bool.eq_false_iff]; simp; omega
        clear h2 h3 h5 h6 h9 hd hp
        go_enter Tryz.func116, Tryz.ntmps116
        go_wp2_with fail
        refine (C0.out _ H0.out.st).mono ?_
        rintro e w1 ⟨rfl, m1⟩
        have H1 := kH (H0.out.trans m1)
        clear m1
        unfold tokV
        go_wp2_with fail
        refine (C1.out _ H1.out.st).mono ?_
        rintro e w2 ⟨rfl, m2⟩
        have H2 := kH (H1.out.trans m2)
        clear m2
        go_wp2_with fail
        refine (C2.out _ H2.out.st).mono ?_
        rintro e w3 ⟨rfl, m3⟩
        have H3 := kH (H2.out.trans m3)
        clear m3
        go_wp2_with fail
        go_ret
        exact ⟨rfl, H3.out⟩
       ·
        rw [decide_eq_false hp] at C2
        rw [show (valueB l) = false from by simp_all [valueB]]
        have g2 : ((((tk l).k : Nat) : Int) == 2) = false := by rw [Bool.eq_false_iff]; simp; omega
        have g3 : ((((tk l).k : Nat) : Int) == 3) = false := by rw [Bool.eq_false_iff]; simp; omega
        have g5 : ((((tk l).k : Nat) : Int) == 5) = false := by rw [Bool.eq_false_iff]; simp; omega
        have g6 : ((((tk l).k : Nat) : Int) == 6) = false := by rw [Bool.eq_false_iff]; simp; omega
        have g9 : ((((tk l).k : Nat) : Int) == 9) = false := by rw [Bool.eq_false_iff]; simp; omega
        clear h2 h3 h5 h6 h9 hd hp
        go_enter Tryz.func116, Tryz.ntmps116
        go_wp2_with fail
        refine (C0.out _ H0.out.st).mono ?_
        rintro e w1 ⟨rfl, m1⟩
        have H1 := kH (H0.out.trans m1)
        clear m1
        unfold tokV
        go_wp2_with fail
        refine (C1.out _ H1.out.st).mono ?_
        rintro e w2 ⟨rfl, m2⟩
        have H2 := kH (H1.out.trans m2)
        clear m2
        go_wp2_with fail
        refine (C2.out _ H2.out.st).mono ?_
        rintro e w3 ⟨rfl, m3⟩
        have H3 := kH (H2.out.trans m3)
        clear m3
        go_wp2_with fail
        go_ret
        exact ⟨rfl, H3.out⟩
end Go.Proofs.YtmbfdkiejneheaaGreatDoor

namespace Go.Proofs.YtmbfdkiejneheaaGreatDoor
/-- What the walk of a drawn region is tidied by: seven rules in one. -/
theorem nrm : (∀ {α : Type} {xs : List α} {i : Nat} (h : i < xs.toArray.size), xs.toArray[i] = xs[i]'(by simpa using h)) ∧ (∀ {α : Type} {a : α} {l : List α} (h : 0 < (a :: l).length), (a :: l)[0] = a) ∧ (∀ {α : Type} {a : α} {l : List α} {i : Nat} (h : i + 1 < (a :: l).length), (a :: l)[i + 1] = l[i]'(by simpa using h)) ∧
  (∀ (a : Act) (i : Tmp) (v : Value), a.put (some i) v = { a with tmps := a.tmps.setIfInBounds i v }) ∧ (∀ (a : Act) (v : Value), a.put none v = a) ∧ (∀ {α : Type} {l : List α} {i : Nat} {a : α}, l.toArray.setIfInBounds i a = (l.set i a).toArray) ∧ (∀ {α : Type} {a b : α} {l : List α}, (a :: l).set 0 b = b :: l) ∧ (∀ {α : Type} {a b : α} {l : List α} {n : Nat}, (a :: l).set (n + 1) b = a :: l.set n b) :=
 ⟨fun _ => by simp, fun _ => rfl, fun _ => rfl, fun _ _ _ => rfl, fun _ _ => rfl, by simp, rfl, rfl⟩
open Go

section
variable {P : Program} {ops : Array Oper} {Q : Exit → Act → World → Prop} {md : Region.Mode} {S : World → Prop} {st : List Nat}

/-- As long as none of the stores has come up, S. -/
def StS (st : List Nat) (S : World → Prop) (listed : Array Bool) (w : World) : Prop := (∀ j ∈ st, listed.getD j true = false) → S w
def wpAnyL (P : Program) (md : Region.Mode) (ops : Array Oper) (Q : Exit → Act → World → Prop) (st : List Nat) (S : World → Prop) : Nat → Array Bool → Act → World → Prop
 | 0, listed, a, w => Region.ready md ops listed = [] ∧ Q .normal a w
 | fuel + 1, listed, a, w =>
  (Region.ready md ops listed = [] → Q .normal a w) ∧
  ∀ i ∈ Region.ready md ops listed, wpOp P ops Q i (fun a' w' => StS st S (listed.setIfInBounds i true) w' ∧ wpAnyL P md ops Q st S fuel (listed.setIfInBounds i true) a' w') a w
theorem wpAny_of_L : ∀ (fuel : Nat) (listed : Array Bool) (a : Act) (w : World), wpAnyL P md ops Q st S fuel listed a w → wpAny P md ops Q fuel listed a w
 | 0, _, _, _, h => h
 | fuel + 1, _, _, _, h => ⟨h.1, fun i hi => wpOp_mono (fun a' w' h' => wpAny_of_L fuel _ a' w' h'.2) (h.2 i hi)⟩
/-- The operation j waits for i, by itself or by what it waits for. -/
def wto (md : Region.Mode) (ops : Array Oper) (i : Nat) : Nat → Nat → Bool
 | 0, _ => false
 | n + 1, j => match ops[j]? with
  | some o => o.after.any fun e => Region.binds md e && (e.on == i || wto md ops i n e.on)
  | none => false
/-- Every store waits for i. -/
def waits (md : Region.Mode) (ops : Array Oper) (st : List Nat) (i : Nat) : Bool := st.all fun j => wto md ops i 5 j
/-- What has come up waited for what has come up. -/
def Clo (md : Region.Mode) (ops : Array Oper) (listed : Array Bool) : Prop := ∀ (k : Nat) ok, ops[k]? = some ok → listed.getD k false = true → ∀ e ∈ ok.after, Region.binds md e = true → listed.getD e.on false = true
def cloB (md : Region.Mode) (ops : Array Oper) (listed : Array Bool) : Bool := (List.range ops.size).all fun k => match ops[k]? with
 | some ok => !listed.getD k false || ok.after.all fun e => !Region.binds md e || listed.getD e.on false
 | none => true
theorem clo_of {listed : Array Bool} (h : cloB md ops listed = true) : Clo md ops listed := fun k ok hk hl e he hb => by
 have hlt : k < ops.size := (Array.getElem?_eq_some_iff.1 hk).1
 have := List.all_eq_true.1 h k (List.mem_range.2 hlt)
 simp only [hk, hl, Bool.not_true, Bool.false_or] at this
 have := Array.all_eq_true_iff_forall_mem.1 this e he
 simpa [hb] using this
theorem wto_listed {i : Nat} {listed : Array Bool} (hclo : Clo md ops listed) : ∀ (n k : Nat) ok, ops[k]? = some ok → (∀ e ∈ ok.after, Region.binds md e = true → listed.getD e.on false = true) → wto md ops i n k = true → listed.getD i false = true
 | 0, _, _, _, _, h => by simp [wto] at h
 | n + 1, k, ok, hk, hall, h => by
  simp only [wto, hk, Array.any_eq_true'] at h
  obtain ⟨e, he, hb⟩ := h
  rw [Bool.and_eq_true, Bool.or_eq_true, beq_iff_eq] at hb
  have hl := hall e he hb.1
  rcases hb.2 with h | h
  ·
   rw [← h]; exact hl
  ·
   cases hoe : ops[e.on]? with
   | none => cases n <;> simp [wto, hoe] at h
   | some o2 => exact wto_listed hclo n e.on o2 hoe (fun e2 he2 hb2 => hclo e.on o2 hoe hl e2 he2 hb2) h
theorem wpAnyL_first {i : Nat} {oi : Oper} {v : Value} (hi : ops[i]? = some oi) (hsel : ∀ (j : Nat) (o : Oper) cs b, ops[j]? = some o → o.op ≠ .select cs b)
  (hQ : ∀ c a w, Q (.panic c) (a.put oi.dst v) w → Q (.panic c) a w) (hist : i ∉ st) (hw : waits md ops st i = true) :
  ∀ (fuel : Nat) (listed : Array Bool) (a : Act) (w : World),
   (∀ j oj, ops[j]? = some oj → j ≠ i → listed.getD j true = false → (∀ e ∈ oj.after, Region.binds md e = true → e.on ≠ i) → oi.apart ops oj = true) →
   i ∈ Region.ready md ops listed → YieldsIf P ops S oi v a → (∀ j ∈ st, listed.getD j true = false) → Clo md ops listed → S w →
   wpAnyL P md ops Q st S fuel (listed.setIfInBounds i true) (a.put oi.dst v) w → wpAnyL P md ops Q st S (fuel + 1) listed a w := by
 intro fuel
 induction fuel with
 | zero =>
  intro listed a w _ hr hy _ _ hS H
  refine ⟨fun h => (by rw [h] at hr; cases hr), fun j hj => ?_⟩
  by_cases hji : j = i
  ·
   subst hji; exact hy.wpOp hi hS ⟨fun _ => hS, H⟩
  ·
   have := ready_mono hj hji
   rw [H.1] at this
   cases this
 | succ fuel ih =>
  intro listed a w hfree hr hy hun hclo hS H
  refine ⟨fun h => (by rw [h] at hr; cases hr), fun j hj => ?_⟩
  by_cases hji : j = i
  ·
   subst hji; exact hy.wpOp hi hS ⟨fun _ => hS, H⟩
  ·
   have h1 := H.2 j (ready_mono hj hji)
   obtain ⟨hjun, oj, hoj, hall⟩ := mem_ready.1 hj
   have h0 := (mem_ready.1 hr).1
   have hnot : ∀ e ∈ oj.after, Region.binds md e = true → e.on ≠ i := fun e he hb heq => by
    have h1 := hall e he hb
    rw [heq] at h1
    rcases Nat.lt_or_ge i listed.size with h' | h'
    ·
     simp [h'] at h0 h1; rw [h0] at h1; cases h1
    ·
     simp [Array.getElem?_eq_none h'] at h1
   have hjst : j ∉ st := fun hm => by
    have hl := wto_listed hclo 5 j oj hoj (fun e he hb => by
     have h1 := hall e he hb
     rcases Nat.lt_or_ge e.on listed.size with h' | h'
     ·
      simpa [h'] using h1
     ·
      simp [Array.getElem?_eq_none h'] at h1) (List.all_eq_true.1 hw j hm)
    rcases Nat.lt_or_ge i listed.size with h' | h'
    ·
     simp [h'] at h0 hl; rw [h0] at hl; cases hl
    ·
     simp [Array.getElem?_eq_none h'] at hl
   have hclo' : Clo md ops (listed.setIfInBounds j true) := fun k ok hk hl e he hb => by
    refine getD_set_true ?_
    by_cases hjk : j = k
    ·
     subst hjk
     rw [hoj] at hk
     obtain rfl := Option.some.inj hk
     exact hall e he hb
    ·
     rw [getD_set_ne false hjk] at hl
     exact hclo k ok hk hl e he hb
   have hun' : ∀ s ∈ st, (listed.setIfInBounds j true).getD s true = false := fun s hs => by
    rw [getD_set_ne true (show j ≠ s from fun e => hjst (e ▸ hs))]; exact hun s hs
   have h2 := wpOp_putIf hoj (hfree j oj hoj hji hjun hnot) (fun cs b => hsel i oi cs b hi) (fun cs b => hsel j oj cs b hoj) hQ hy h1
   have hfree' : ∀ k ok, ops[k]? = some ok → k ≠ i → (listed.setIfInBounds j true).getD k true = false →
     (∀ e ∈ ok.after, Region.binds md e = true → e.on ≠ i) → oi.apart ops ok = true := fun k ok hk hki hun hno => by
    refine hfree k ok hk hki ?_ hno
    by_cases hjk : j = k
    ·
     subst hjk; exact hjun
    ·
     rw [getD_set_ne true hjk] at hun; exact hun
   refine wpOp_mono (fun a' w' h3 => ?_) h2
   have hS' : S w' := h3.2.1 fun s hs => by
    rw [getD_set_ne true (show j ≠ s from fun e => hjst (e ▸ hs)), getD_set_ne true (show i ≠ s from fun e => hist (e ▸ hs))]; exact hun s hs
   refine ⟨fun _ => hS', ih (listed.setIfInBounds j true) a' w' hfree' (ready_mono hr (Ne.symm hji)) h3.1 hun' hclo' hS' ?_⟩
   rw [Array.setIfInBounds_comm _ _ hji]
   exact h3.2.2
/-- Take number i first. -/
theorem wpAnyL_take {i : Nat} {oi : Oper} {v : Value} {fuel : Nat} {listed : Array Bool} {a : Act} {w : World} (hi : ops[i]? = some oi)
  (hs : Region.noSelect ops = true) (hf : Region.free md ops listed i = true) (hr : (Region.ready md ops listed).contains i = true) (hist : st.contains i = false) (hw : waits md ops st i = true) (hun : (st.all fun j => listed.getD j true == false) = true) (hclo : cloB md ops listed = true)
  (hQ : ∀ c a w, Q (.panic c) (a.put oi.dst v) w → Q (.panic c) a w) (hy : YieldsIf P ops S oi v a) (hS : S w)
  (h : wpAnyL P md ops Q st S fuel (listed.setIfInBounds i true) (a.put oi.dst v) w) : wpAnyL P md ops Q st S (fuel + 1) listed a w :=
 wpAnyL_first hi (Region.noSelect_spec hs) hQ (by simpa using hist) hw fuel listed a w (Region.free_spec hi hf) (by simpa using hr) hy (fun j hj => by simpa using List.all_eq_true.1 hun j hj) (clo_of hclo) hS h
/-- wpAnyL_take in few words. -/
theorem tkL (i : Nat) {oi : Oper} {v : Value} {fuel : Nat} {listed : Array Bool} {a : Act} {w : World} (hi : ops[i]? = some oi) (hv : ∀ w, S w → (execOp a.eval oi).run P w = .ok (.value v) w)
  (h : wpAnyL P md ops Q st S fuel (listed.setIfInBounds i true) (a.put oi.dst v) w) (hs : Region.noSelect ops = true := by kernel_rfl) (hf : Region.free md ops listed i = true := by kernel_rfl) (hr : (Region.ready md ops listed).contains i = true := by kernel_rfl) (hist : st.contains i = false := by decide) (hw : waits md ops st i = true := by kernel_rfl) (hun : (st.all fun j => listed.getD j true == false) = true := by kernel_rfl) (hclo : cloB md ops listed = true := by kernel_rfl)
  (hQ : ∀ c a w, Q (.panic c) (a.put oi.dst v) w → Q (.panic c) a w := by exact fun _ _ _ h => h) (hwa : Region.wanted oi (yielded ops a.tmps) = true := by rfl) (hS : S w := by assumption) : wpAnyL P md ops Q st S (fuel + 1) listed a w :=
 wpAnyL_take hi hs hf hr hist hw hun hclo hQ (Or.inl ⟨hwa, hv⟩) hS h
theorem skL (i : Nat) {oi : Oper} {fuel : Nat} {listed : Array Bool} {a : Act} {w : World} (hi : ops[i]? = some oi)
  (h : wpAnyL P md ops Q st S fuel (listed.setIfInBounds i true) (a.put oi.dst undef) w) (hs : Region.noSelect ops = true := by kernel_rfl) (hf : Region.free md ops listed i = true := by kernel_rfl) (hr : (Region.ready md ops listed).contains i = true := by kernel_rfl) (hist : st.contains i = false := by decide) (hw : waits md ops st i = true := by kernel_rfl) (hun : (st.all fun j => listed.getD j true == false) = true := by kernel_rfl) (hclo : cloB md ops listed = true := by kernel_rfl)
  (hQ : ∀ c a w, Q (.panic c) (a.put oi.dst undef) w → Q (.panic c) a w := by exact fun _ _ _ h => h) (hwa : Region.wanted oi (yielded ops a.tmps) = false := by rfl) (hS : S w := by assumption) : wpAnyL P md ops Q st S (fuel + 1) listed a w :=
 wpAnyL_take hi hs hf hr hist hw hun hclo hQ (Or.inr ⟨hwa, rfl⟩) hS h
/-- Each of the operations 'rs' comes up next. -/
def AllReadyL (P : Program) (md : Region.Mode) (ops : Array Oper) (Q : Exit → Act → World → Prop) (st : List Nat) (S : World → Prop) (fuel : Nat) (listed : Array Bool) (a : Act) (w : World) (rs : List Nat) : Prop :=
 ∀ i ∈ rs, wpOp P ops Q i (fun a' w' => StS st S (listed.setIfInBounds i true) w' ∧ wpAnyL P md ops Q st S fuel (listed.setIfInBounds i true) a' w') a w
theorem AllReadyL.nil {fuel : Nat} {listed : Array Bool} {a : Act} {w : World} : AllReadyL P md ops Q st S fuel listed a w [] := fun _ h => by cases h
/-- A call: S is shown anew. -/
theorem AllReadyL.cons {fuel : Nat} {listed : Array Bool} {a : Act} {w : World} {i : Nat} {o : Oper} {rs : List Nat} (ho : ops[i]? = some o)
  (h : ∀ K' : Act → World → Prop, Shut (∀ a w, S w → (S w → wpAnyL P md ops Q st S fuel (listed.setIfInBounds i true) a w) → K' a w) → if Region.wanted o (yielded ops a.tmps) = true then Oper.wp P o a w K' Q else K' (a.put o.dst undef) w)
  (hs : AllReadyL P md ops Q st S fuel listed a w rs) : AllReadyL P md ops Q st S fuel listed a w (i :: rs) := fun j hj => by
 rcases List.mem_cons.1 hj with rfl | hj
 ·
  exact wpOp_step ho (fun K' hK => h K' (fun a w hS hW => hK a w ⟨fun _ => hS, hW hS⟩))
 ·
  exact hs j hj
/-- A store: S is asked for no more. -/
theorem AllReadyL.store {fuel : Nat} {listed : Array Bool} {a : Act} {w : World} {i : Nat} {o : Oper} {rs : List Nat} (ho : ops[i]? = some o) (hst : st.contains i = true) (hlt : i < listed.size)
  (h : ∀ K' : Act → World → Prop, Shut (∀ a w, wpAnyL P md ops Q st S fuel (listed.setIfInBounds i true) a w → K' a w) → if Region.wanted o (yielded ops a.tmps) = true then Oper.wp P o a w K' Q else K' (a.put o.dst undef) w)
  (hs : AllReadyL P md ops Q st S fuel listed a w rs) : AllReadyL P md ops Q st S fuel listed a w (i :: rs) := fun j hj => by
 rcases List.mem_cons.1 hj with rfl | hj
 ·
  refine wpOp_step ho (fun K' hK => h K' (fun a w hW => hK a w ⟨fun hun => ?_, hW⟩))
  have := hun j (by simpa using hst)
  simp [Array.getD, hlt] at this
 ·
  exact hs j hj
theorem wpAnyL_ready {rs : List Nat} {fuel : Nat} {listed : Array Bool} {a : Act} {w : World} (hr : Region.ready md ops listed = rs) (hne : rs ≠ [])
  (h : AllReadyL P md ops Q st S fuel listed a w rs) : wpAnyL P md ops Q st S (fuel + 1) listed a w := ⟨fun h0 => absurd (hr ▸ h0) hne, hr ▸ h⟩
theorem wpAnyL_done {listed : Array Bool} {a : Act} {w : World} (hr : Region.ready md ops listed = []) (h : Q .normal a w) : ∀ fuel, wpAnyL P md ops Q st S fuel listed a w
 | 0 => ⟨hr, h⟩
 | _ + 1 => ⟨fun _ => h, by rw [hr]; simp⟩
/-- The one that comes up next. -/
theorem rdL (i : Nat) {fuel : Nat} {listed : Array Bool} {a : Act} {w : World} {o : Oper} (ho : ops[i]? = some o)
  (h : ∀ K' : Act → World → Prop, Shut (∀ a w, S w → (S w → wpAnyL P md ops Q st S fuel (listed.setIfInBounds i true) a w) → K' a w) → if Region.wanted o (yielded ops a.tmps) = true then Oper.wp P o a w K' Q else K' (a.put o.dst undef) w)
  (hr : Region.ready md ops listed = [i] := by kernel_rfl) : wpAnyL P md ops Q st S (fuel + 1) listed a w :=
 wpAnyL_ready hr (by simp) (AllReadyL.cons ho h AllReadyL.nil)
/-- The beginning. -/
theorem wp_region_L {id : Nat} {a : Act} {w : World} (hm : P.follows .mixedOrders = true) (hS : S w.drew)
  (h : S w.drew → wpAnyL P .any ops Q st S ops.size (Array.replicate ops.size false) a w.drew) : (Code.region id ops true).wp P Q a w :=
 wp_region_any hm (wpAny_of_L _ _ _ _ (h hS))
end
end Go.Proofs.YtmbfdkiejneheaaGreatDoor
