/-
 THE WALK of the law ParseInner: whatever the text, it returns true and writes to nothing that was there.
-/
import Derived.Test.YtmbfdkiejneheaaGreatDoorPaSpW
import Derived.Test.YtmbfdkiejneheaaGreatDoorPaIn
namespace Go.Proofs.YtmbfdkiejneheaaGreatDoor
open Go.RowKit

/-- The kids of a node in memory: one, or two. -/
theorem TreeP.kn {w : World} {B : Nat → Prop} {t : PT} {n : An} (h : TreeP w B t n) : n.kn = t.kids.length := by
 cases t with
 | mk o x p ks =>
  unfold TreeP at h
  obtain ⟨_, _, _, ns, h3, _, h5⟩ := h
  rcases h3.2 with ⟨e, e2⟩ | ⟨g, cap, cur, e, _⟩
  · unfold An.kids at e; injection e with _ e3 _; rw [e3]; exact e2.symm
  · unfold An.kids at e; injection e
theorem TreeP.kid1 {w : World} {B : Nat → Prop} {o x : List UInt8} {p : Nat} {q : PT} {n : An} (h : TreeP w B (.mk o x p [q]) n) :
  ∃ g c m, n = ⟨bs o, bs x, (p : Int), some ⟨g, 0, none⟩, 1, c⟩ ∧ w.cell? ⟨g, 0, none⟩ = some (.string (bs q.op)) ∧ w.cell? ⟨g, 3, none⟩ = some (.slice m.kp m.kn m.kc) ∧ g < w.heap.size ∧ TreeP w B q m := by
 unfold TreeP at h
 obtain ⟨h1, h2, h0, ns, h3, h4, h5⟩ := h
 unfold TreesP at h5
 obtain ⟨m, rest, rfl, h6, h7⟩ := h5
 unfold TreesP at h7
 subst h7
 obtain ⟨op, tx, pl, kp, kn, kc⟩ := n
 simp only at h1 h2 h0
 subst h1 h2 h0
 rcases h3.2 with ⟨_, e2⟩ | ⟨g, cap, cur, e, _⟩
 · simp at e2
 ·
  unfold An.kids at e h3
  simp only [List.length_cons, List.length_nil, Nat.zero_add] at e h3
  injection e with e1 e2 e3
  subst e1 e2 e3
  have hq : ∀ j, j < 4 → w.cell? ⟨g, j, none⟩ = m.vals[j]? := fun j hj => by
   rw [h3.cellAt j (by omega), anRow_one]
  refine ⟨g, kc, m, rfl, ?_, hq 3 (by omega), (own_base h3 g rfl).2, h6⟩
  rw [hq 0 (by omega), ← h6.opx]; rfl
theorem TreeP.kid2 {w : World} {B : Nat → Prop} {o x : List UInt8} {p : Nat} {a b : PT} {n : An} (h : TreeP w B (.mk o x p [a, b]) n) :
  ∃ g c, n.kp = some ⟨g, 0, none⟩ ∧ n.kn = 2 ∧ n.kc = c ∧ w.cell? ⟨g, 4, none⟩ = some (.string (bs b.op)) ∧ g < w.heap.size := by
 unfold TreeP at h
 obtain ⟨h1, h2, h0, ns, h3, h4, h5⟩ := h
 unfold TreesP at h5
 obtain ⟨m, rest, rfl, h6, h7⟩ := h5
 unfold TreesP at h7
 obtain ⟨m2, rest2, rfl, h8, h9⟩ := h7
 unfold TreesP at h9
 subst h9
 obtain ⟨op, tx, pl, kp, kn, kc⟩ := n
 rcases h3.2 with ⟨_, e2⟩ | ⟨g, cap, cur, e, _⟩
 · simp at e2
 ·
  unfold An.kids at e h3
  simp only [List.length_cons, List.length_nil, Nat.zero_add] at e h3
  injection e with e1 e2 e3
  subst e1 e2 e3
  refine ⟨g, kc, rfl, rfl, rfl, ?_, (own_base h3 g rfl).2⟩
  rw [h3.cellAt 4 (by omega), show (anRow [m, m2])[4]? = m2.vals[0]? from by rw [show anRow [m, m2] = m.vals ++ (m2.vals ++ []) from rfl]; rfl, ← h8.opx]; rfl
theorem rule_two {reOk : List UInt8 → Bool} {s : List UInt8} {t q : PT} (h : parseW reOk s = .ok t) (hk : t.kids = [q]) (hq : q.op = oRule) : ∃ a b, q = nd oRule [a, b] := by
 obtain ⟨r, l2, hl, hp⟩ := parseW_ok h
 obtain ⟨l3, h0, hit, hu0, hend⟩ := prog_one hp hk
 obtain ⟨a1, b1, hqq, _⟩ := item_rule hit hq
 exact ⟨a1, b1, hqq⟩
theorem one_kid {t : PT} (h : t.kids.length = 1) : ∃ o x p q, t = .mk o x p [q] := by
 cases t with
 | mk o x p ks =>
  match ks, h with
  | [q], _ => exact ⟨o, x, p, q, rfl⟩
set_option maxHeartbeats 8000000 in
set_option maxRecDepth 100000 in
theorem inner_walk (s : ByteArray) (hs : s.size ≤ maxLen) (w : World) (htab : Tabs w) :
  Calls Tryz.prog 5 #[.string s] w fun e w' => e = .returned (.bool true) ∧ Below w.heap.size w w' := by
 have C1 := kH fun W => cut_any s 100 W hs (by omega)
 have l1 := cutB_size s 100
 generalize cutB s 100 = x at *
 have AW := kH fun W (hW : Below w.heap.size w W) => awake_any W (htab.next hW)
 have HB0 := kH (Below.refl w.heap.size w)
 have CP := kH fun W => parse_any x W (by omega)
 clear hs htab
 go_enter Tryz.func5, Tryz.ntmps5
 go_wp2_with fail
 refine (C1.out _).mono ?_
 rintro e w1 ⟨rfl, rfl⟩
 go_wp2_with fail
 have hxs : x.size ≤ 100 := l1
 go_loopg [3] x.size (fun gk v3 wr => ∃ j : Nat, j ≤ x.size ∧ gk = x.size - j ∧ v3 = .int .i64 (j : Int) ∧ wr = w ∧ ∀ k (h : k < j) (h2 : k < x.size), x[k] ≠ 35 ∧ x[k] ≠ 59)
 case atStart => exact ⟨0, Nat.zero_le _, rfl, rfl, rfl, fun k h => absurd h (Nat.not_lt_zero _)⟩
 case round =>
  obtain ⟨j, hj, rfl, rfl, rfl, hall⟩ := hrel
  have HA := kH hall
  clear hall
  by_cases hc : j < x.size
  ·
   have hci : (j : Int) < (x.size : Int) := by omega
   have hb : x[j] = 35 ∨ (x[j] ≠ 35 ∧ x[j] = 59) ∨ (x[j] ≠ 35 ∧ x[j] ≠ 59) := by
    by_cases h : x[j] = 35
    · exact .inl h
    ·
     by_cases h2 : x[j] = 59
     · exact .inr (.inl ⟨h, h2⟩)
     · exact .inr (.inr ⟨h, h2⟩)
   have h35 : ∀ c : UInt8, ((c.toNat : Int) == 35) = (c == 35) := fun c => by
    rw [Bool.eq_iff_iff, beq_iff_eq, beq_iff_eq]
    constructor
    · intro h; exact u8_of (d := 35) (by rw [h]; rfl)
    · intro h; rw [h]; rfl
   have h59 : ∀ c : UInt8, ((c.toNat : Int) == 59) = (c == 59) := fun c => by
    rw [Bool.eq_iff_iff, beq_iff_eq, beq_iff_eq]
    constructor
    · intro h; exact u8_of (d := 59) (by rw [h]; rfl)
    · intro h; rw [h]; rfl
   rcases hb with hb | ⟨hb, hb2⟩ | ⟨hb, hb2⟩
   ·
    have e1 : ((x[j].toNat : Int) == 35) = true := by rw [h35]; simp [hb]
    clear h35 h59 hb
    go_wp2_with fail
    refine (AW.out _ HB0.out).mono ?_
    rintro e w9 ⟨rfl, hb9⟩
    have HB9 := kH (HB0.out.trans (hb9.mono HB0.out.size))
    clear hb9
    go_wp2_with fail
    go_ret
    exact ⟨rfl, HB9.out⟩
   ·
    have e1 : ((x[j].toNat : Int) == 35) = false := by rw [h35]; simp [hb]
    have e2 : ((x[j].toNat : Int) == 59) = true := by rw [h59]; simp [hb2]
    clear h35 h59 hb hb2
    go_wp2_with fail
    refine (AW.out _ HB0.out).mono ?_
    rintro e w9 ⟨rfl, hb9⟩
    have HB9 := kH (HB0.out.trans (hb9.mono HB0.out.size))
    clear hb9
    go_wp2_with fail
    go_ret
    exact ⟨rfl, HB9.out⟩
   ·
    have e1 : ((x[j].toNat : Int) == 35) = false := by rw [h35]; simp [hb]
    have e2 : ((x[j].toNat : Int) == 59) = false := by rw [h59]; simp [hb2]
    have HB1 := kH (And.intro hb hb2)
    clear h35 h59 hb hb2
    go_wp2_with fail
    go_roundg (x.size - (j + 1))
    case measure => omega
    case rel => exact ⟨j + 1, hc, rfl, by simp, rfl, fun k h h2 => by
     by_cases hk : k = j
     · subst hk; exact HB1.out
     · exact HA.out k (by omega) h2⟩
  ·
   obtain rfl : j = x.size := by omega
   have h35 : (35 : UInt8) ∉ x.data.toList := fun hm => by
    obtain ⟨k, hk, he⟩ := List.mem_iff_getElem.1 hm
    have hk2 : k < x.size := by rwa [ba_sz] at hk
    have := at_list x k hk2
    rw [List.getElem?_eq_getElem hk, he] at this
    exact (HA.out k hk2 hk2).1 (Option.some.inj this).symm
   have h59 : (59 : UInt8) ∉ x.data.toList := fun hm => by
    obtain ⟨k, hk, he⟩ := List.mem_iff_getElem.1 hm
    have hk2 : k < x.size := by rwa [ba_sz] at hk
    have := at_list x k hk2
    rw [List.getElem?_eq_getElem hk, he] at this
    exact (HA.out k hk2 hk2).2 (Option.some.inj this).symm
   have HNS := kH (And.intro h35 h59)
   clear h35 h59 hc HA
   cases hx : parseL x.data.toList with
   | error q =>
    rw [hx] at CP
    obtain ⟨p, k⟩ := q
    have ht := (parse_told hx).2
    simp only at ht
    clear hx
    rcases ht with rfl | rfl | rfl
    all_goals
     go_wp2_with fail
     refine (CP.out _).mono ?_
     rintro e w2 ⟨hb2, rfl⟩
     have HB2 := kH (hb2.alloc hb2.size zN)
     clear hb2
     go_wp2_with fail
     refine (AW.out _ HB2.out).mono ?_
     rintro e w9 ⟨rfl, hb9⟩
     have HB9 := kH (HB2.out.trans (hb9.mono HB2.out.size))
     clear hb9
     go_wp2_with fail
     go_ret
     exact ⟨rfl, HB9.out⟩
   | ok t =>
    rw [hx] at CP
    have HX := kH hx
    clear hx
    go_wp2_with fail
    refine (CP.out _).mono ?_
    rintro e w2 ⟨hb2, n, rfl, tr2⟩
    have HN2 := kH (BlkA.new w2 n)
    have HB2 := kH (hb2.alloc hb2.size (nB n))
    have HT2 := kH tr2
    clear hb2 tr2
    unfold An.val
    by_cases h1 : t.kids.length = 1
    ·
     obtain ⟨o, x0, p0, q, rfl⟩ := one_kid h1
     clear h1
     obtain ⟨g1, c1, m1, rfl, k0, k3, kl, tq⟩ := HT2.out.kid1
     have kne : g1 ≠ w2.heap.size := by omega
     obtain ⟨S, hS⟩ : ∃ S, q.op = S := ⟨_, rfl⟩
     have HQS := kH hS
     rw [hS] at k0
     clear hS
     unfold bs at k0
     by_cases hq : S = [114, 117, 108, 101]
     ·
      obtain ⟨a, b, rfl⟩ := rule_two HX.out rfl (by rw [HQS.out]; exact hq)
      subst hq
      obtain ⟨g2, c2, e1, e2, e3, k4, kl2⟩ := tq.kid2
      have kne2 : g2 ≠ w2.heap.size := by omega
      rw [e1, e2, e3] at k3
      obtain ⟨S2, hS2⟩ : ∃ S, b.op = S := ⟨_, rfl⟩
      have HQS2 := kH hS2
      rw [hS2] at k4
      clear hS2
      unfold bs at k4
      by_cases hb : S2 = [100, 101, 102, 97, 117, 108, 116]
      ·
       subst hb
       have HKD := kH (parse_inner HX.out rfl rfl rfl HQS2.out HNS.out.1 HNS.out.2)
       clear tq e1 e2 e3 HQS2 HQS
       have hlst : ((⟨#[40]⟩ : ByteArray) ++ x ++ ⟨#[41]⟩).data.toList = 40 :: (x.data.toList ++ [41]) := by simp
       have hsz : ((⟨#[40]⟩ : ByteArray) ++ x ++ ⟨#[41]⟩).size ≤ 4000 := by
        rw [← ba_sz, hlst, List.length_cons, List.length_append, ba_sz, List.length_singleton]; omega
       have hsx : x.size + 100 ≤ 9223372036854775807 := by omega
       have CQ := kH fun W => parse_any ((⟨#[40]⟩ : ByteArray) ++ x ++ ⟨#[41]⟩) W hsz
       rw [hlst] at CQ
       clear hlst hsz
       go_wp2_with fail
       have HT3 := kH (HT2.out.below ((Below.refl _ _).alloc (Nat.le_refl _) (.cells #[.string (bs o), .string (bs x0), .int .i64 (p0 : Int), .slice (some ⟨g1, 0, none⟩) 1 c1] 25)))
       clear HT2 kne kne2 k0 k3 k4 kl kl2
       generalize w2.alloc (.cells #[.string (bs o), .string (bs x0), .int .i64 (p0 : Int), .slice (some ⟨g1, 0, none⟩) 1 c1] 25) = wa at *
       generalize w2.heap.size = gn at *
       rcases HKD.out with ⟨pp, hu⟩ | ⟨u, hu, hf⟩
       ·
        rw [show parseL (40 :: (x.data.toList ++ [41])) = .error (pp, 14) from hu] at CQ
        clear hu
        refine (CQ.out _).mono ?_
        rintro e w3 ⟨hb3, rfl⟩
        have HB3 := kH ((HB2.out.trans (hb3.mono HB2.out.size)).alloc (HB2.out.trans (hb3.mono HB2.out.size)).size zN)
        clear hb3
        go_wp2_with fail
        refine (AW.out _ HB3.out).mono ?_
        rintro e w9 ⟨rfl, hb9⟩
        have HB9 := kH (HB3.out.trans (hb9.mono HB3.out.size))
        clear hb9
        go_wp2_with fail
        go_ret
        exact ⟨rfl, HB9.out⟩
       ·
        rw [show parseL (40 :: (x.data.toList ++ [41])) = .ok u from hu] at CQ
        have HF := kH hf
        clear hu hf
        refine (CQ.out _).mono ?_
        rintro e w3 ⟨hb3, m, rfl, tr3⟩
        have HN3 := kH ((HN2.out.below hb3).alloc (nB m))
        have HT4 := kH ((HT3.out.below hb3).below ((Below.refl _ _).alloc (Nat.le_refl _) (nB m)))
        have HU3 := kH (tr3.below ((Below.refl _ _).alloc (Nat.le_refl _) (nB m)))
        have HM3 := kH (BlkA.new w3 m)
        have HB3 := kH ((HB2.out.trans (hb3.mono HB2.out.size)).alloc (HB2.out.trans (hb3.mono HB2.out.size)).size (nB m))
        clear hb3 tr3 HN2 HT3 HB2
        unfold An.val
        go_wp2_with fail
        generalize w3.alloc (nB m) = wb at *
        generalize w3.heap.size = gm at *
        refine (AW.out _ HB3.out).mono ?_
        rintro e w4 ⟨rfl, hb4⟩
        have HB4 := kH (HB3.out.trans (hb4.mono HB3.out.size))
        have HN4 := kH (HN3.out.below hb4)
        have HM4 := kH (HM3.out.below hb4)
        have CS := kH (same_any (HT4.out.below hb4) (HU3.out.below hb4) HF.out.symm)
        clear hb4 HB3 HN3 HM3 HT4 HU3
        obtain ⟨v0, v1, v2, v3, vk0, vk1, vk2, vk3⟩ := HN4.out.cells
        obtain ⟨x0, x1, x2, x3, xk0, xk1, xk2, xk3⟩ := HM4.out.cells
        unfold An.val at CS
        go_wp2_with fail
        refine CS.out.mono ?_
        rintro e w5 ⟨rfl, hb5⟩
        have HB5 := kH (HB4.out.trans (hb5.mono HB4.out.size))
        clear hb5
        go_wp2_with fail
        go_ret
        exact ⟨rfl, HB5.out⟩
      ·
       have e5 : (S2 == [100, 101, 102, 97, 117, 108, 116]) = false := by rw [beq_eq_false_iff_ne]; exact hb
       clear hb tq e1 e2 e3 HQS2 HQS
       go_wp2_with fail
       refine (AW.out _ HB2.out).mono ?_
       rintro e w9 ⟨rfl, hb9⟩
       have HB9 := kH (HB2.out.trans (hb9.mono HB2.out.size))
       clear hb9
       go_wp2_with fail
       go_ret
       exact ⟨rfl, HB9.out⟩
     ·
      have e5 : (S == [114, 117, 108, 101]) = false := by rw [beq_eq_false_iff_ne]; exact hq
      clear hq tq HQS
      go_wp2_with fail
      refine (AW.out _ HB2.out).mono ?_
      rintro e w9 ⟨rfl, hb9⟩
      have HB9 := kH (HB2.out.trans (hb9.mono HB2.out.size))
      clear hb9
      go_wp2_with fail
      go_ret
      exact ⟨rfl, HB9.out⟩
    ·
     have e5 : ((n.kn : Int) == 1) = false := by
      have := HT2.out.kn
      rw [beq_eq_false_iff_ne]; omega
     have e6 : ((n.kn : Int) != 1) = true := by rw [bne_iff_ne]; rw [beq_eq_false_iff_ne] at e5; exact e5
     clear h1
     go_wp2_with fail
     refine (AW.out _ HB2.out).mono ?_
     rintro e w9 ⟨rfl, hb9⟩
     have HB9 := kH (HB2.out.trans (hb9.mono HB2.out.size))
     clear hb9
     go_wp2_with fail
     go_ret
     exact ⟨rfl, HB9.out⟩
end Go.Proofs.YtmbfdkiejneheaaGreatDoor
