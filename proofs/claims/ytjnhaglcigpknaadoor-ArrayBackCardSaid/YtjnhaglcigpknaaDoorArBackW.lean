/-
  THE WALK of ArrayBack.
-/
import Derived.Test.YtjnhaglcigpknaaDoorArMd
import Derived.Test.YtjnhaglcigpknaaDoorArRead2
import Derived.Lib.SlicesS
namespace Go.Proofs.YtjnhaglcigpknaaDoor
open Go.RowKit Go.Maps

theorem tab_at {B : Nat} {w w1 : World} (htab : Lib.TabBelow Tryd.prog B w "internal/strconv.uint64pow10" .u64 Lib.pow10Tab) (hb : Below B w w1) : Lib.TabBelow Tryd.prog B w1 "internal/strconv.uint64pow10" .u64 Lib.pow10Tab :=
  fun w' h' => htab w' (hb.trans h')
theorem encL_cont : ∀ (L L2 : List En), cont L2 = cont L → encL L2 = encL L
  | [], [], _ => rfl
  | [], y :: M, h => by simp [cont] at h
  | x :: L, [], h => by simp [cont] at h
  | x :: L, y :: M, h => by
    simp only [cont, List.map_cons, List.cons.injEq] at h
    obtain ⟨h1, h2⟩ := h
    have e1 : y.key = x.key := congrArg Prod.fst h1
    have e2 : y.c = x.c := congrArg Prod.snd h1
    show encE y ++ encL M = encE x ++ encL L
    rw [encL_cont L M h2]
    unfold encE
    rw [e1, e2]
theorem prefix_okN (l : List UInt8) : OkN (prefixL l).1 := by
  have key : ∀ (A : Prop) [Decidable A] (b : Bool) (v k : Nat), OkN (if A then ((0 : Int), (0 : Nat)) else (sgnI b (min mostN v), k)).1 := by
    intro A _ b v k
    split
    · unfold OkN; omega
    · unfold OkN sgnI mostN; simp only; split <;> omega
  exact key _ _ _ _
theorem looks_okN (l : List UInt8) : OkN (looksL l).1 := prefix_okN l
theorem good_of {L : List En} {P : List Pr} (h : cont L = P) (hk : ∀ p ∈ P, p.1.size ≤ 40 ∧ p.2.s.size ≤ 100) (hg : ∀ p ∈ P, GoodC p.2.k p.2.n p.2.s) : ∀ e ∈ L, goodE e ∧ smE e ∧ e.key.size ≤ 40 ∧ e.c.s.size ≤ 100 := by
  subst h
  intro e he
  have hm : (e.key, e.c) ∈ cont L := by simp only [cont, List.mem_map]; exact ⟨e, he, rfl⟩
  have h1 : e.key.size ≤ 40 ∧ e.c.s.size ≤ 100 := hk _ hm
  have h2 : GoodC e.c.k e.c.n e.c.s := hg _ hm
  have h3 : (-9223372036854775808 ≤ e.c.k ∧ e.c.k ≤ 9223372036854775807) ∧ -9223372036854775808 ≤ e.c.n ∧ e.c.n ≤ 9223372036854775807 := by
    have ha := h2
    rcases ha with h | h | h | h
    all_goals (first | omega | (refine ⟨by omega, ?_⟩; first | (have h5 := h.2.1; unfold OkN at h5; omega) | (have h5 := h.2.2; unfold OkN at h5; omega) | (have h5 := looks_okN e.c.s.data.toList; rw [h.2] at h5; unfold OkN at h5; simp only at h5; omega)))
  exact ⟨⟨h2, by omega, by omega⟩, ⟨by omega, by omega, h3.1, h3.2⟩, h1⟩
theorem pT_lenS (s : ByteArray) (h : s.size ≤ 10000) : (pT s).length ≤ s.size + 22 := by
  have := itoa_len (s.size : Int) (by omega) (by omega)
  simp [pT]; omega
theorem encE_lenS {e : En} (h : smE e) (h0 : e.key.size ≤ 40 ∧ e.c.s.size ≤ 100) : (encE e).length ≤ 400 := by
  obtain ⟨h1, h2, ⟨h3, h4⟩, h5, h6⟩ := h
  have a1 := pT_lenS e.key h1
  have a2 := pT_lenS e.c.s h2
  have a3 := pI_len e.c.k h3 h4
  have a4 := pI_len e.c.n h5 h6
  unfold encE encC
  rw [List.length_append, List.length_append]
  split
  · omega
  · split
    · omega
    · simp; omega
theorem encL_lenS : ∀ (L : List En), (∀ e ∈ L, smE e ∧ e.key.size ≤ 40 ∧ e.c.s.size ≤ 100) → (encL L).length ≤ 400 * L.length
  | [], _ => by simp [encL]
  | e :: L, h => by
    have h1 := encE_lenS (h e (by simp)).1 (h e (by simp)).2
    have h2 := encL_lenS L (fun x hx => h x (List.mem_cons_of_mem _ hx))
    have h3 : encL (e :: L) = encE e ++ encL L := rfl
    rw [h3, List.length_append, List.length_cons]
    omega
theorem Wr.wfr {w w' : World} {wa Ba vb : Nat} {l : List UInt8} {cs : Array Value} (h : Wr w wa Ba l) (hf : WFr vb w.heap.size w w') (hne : wa ≠ vb) (hv : w.heap[vb]? = some (.cells cs 27 (0, 0))) : Wr w' wa Ba l := by
  obtain ⟨v, h1, h2, h3, h4, h5⟩ := h
  have c := hf.block wa (by omega) hne
  refine ⟨v, (World.cell?_of_block (a := ⟨wa, 0, none⟩) c).trans h1, (World.frozen?_of_block (a := ⟨wa, 0, none⟩) c).trans h2, own_keptA h3 (fun g hg => hf.block g (h3.lt g hg).2 (fun e => ?_)), h4, Nat.le_trans h5 hf.size⟩
  subst e
  obtain ⟨_, c, fz, hh⟩ := ownsRow_kind h3 g hg
  rw [hv] at hh
  injection hh with hh
  injection hh with _ hh
  cases hh
theorem wr_two (w : World) : Wr ((w.alloc (.cells #[.slice none 0 0] 27)).alloc (.cells #[.slice none 0 0] 27)) w.heap.size (w.heap.size + 2) [] :=
  ⟨.slice none 0 0, by simp [go_sem], by simp [go_sem], ⟨by simp [Lib.byteCells], Or.inl ⟨rfl, rfl⟩⟩, by omega, by simp⟩
/-- A Writer that has nothing yet. -/
theorem wr_nil {w : World} {b : Nat} (h : w.heap[b]? = some (.cells #[.slice none 0 0] 27 (0, 0))) : Wr w b w.heap.size [] :=
  ⟨.slice none 0 0, block_cell h, block_frozen h, ⟨by simp [Lib.byteCells], Or.inl ⟨rfl, rfl⟩⟩, block_lt h, Nat.le_refl _⟩
set_option maxRecDepth 100000 in
set_option maxHeartbeats 8000000 in
theorem back_walk (q : Option Addr) (cap : Nat) (l : List Ac) (w : World) (hA : AcAt w q l) (hl : l.length ≤ maxLen) (ht : ∀ t ∈ l, t.ok) (htab : Lib.TabBelow Tryd.prog w.heap.size w "internal/strconv.uint64pow10" .u64 Lib.pow10Tab) :
    Calls Tryd.prog 3 #[.slice q l.length cap] w fun e w' => e = .returned (.bool true) ∧ Below w.heap.size w w' := by
  have CM := Lib.hid (made_any q cap l w hA hl ht)
  have HT := Lib.hid htab
  clear hA hl ht htab
  go_enter Tryd.func3, Tryd.ntmps3
  go_wp2_with fail
  refine CM.out.mono ?_
  rintro e w1 ⟨b, P, rfl, hM⟩
  have M1 := Lib.hid hM
  clear hM CM
  go_wp2_with fail
  obtain ⟨W2, hW2⟩ : ∃ W2, W2 = (w1.alloc (.cells #[.slice none 0 0] 27)).alloc (.cells #[.slice none 0 0] 27) := ⟨_, rfl⟩
  have hb2 : Below w1.heap.size w1 W2 := by rw [hW2]; exact ((Below.refl _ _).alloc (Nat.le_refl _) _).alloc (by simp) _
  have hz2 : W2.heap.size = w1.heap.size + 2 := by rw [hW2]; simp
  have hwr := wr_two w1
  have hvb : W2.heap[w1.heap.size + 1]? = some (.cells #[.slice none 0 0] 27 (0, 0)) := by
    rw [hW2]
    have h := heap_new (w1.alloc (.cells #[.slice none 0 0] 27)) (.cells #[.slice none 0 0] 27)
    rw [World.size_alloc] at h
    exact h
  rw [← hW2] at hwr ⊢
  clear hW2
  obtain ⟨mm, L, hav1, hcl, hown⟩ := M1.out.aa.af
  have hav := hav1.next hb2
  have HGO := Lib.hid (good_of hcl M1.out.key M1.out.good)
  have HG2 := Lib.hid (fun (L2 : List En) (h : cont L2 = cont L) => good_of (h.trans hcl) M1.out.key M1.out.good)
  have HKD := Lib.hid hav.kd
  have hLn : L.length ≤ 40 := by
    have h := M1.out.few
    rw [← hcl] at h
    simpa [cont] using h
  have hz1 := M1.out.aa.bel.size
  have HB2 := Lib.hid (M1.out.aa.bel.trans (hb2.mono hz1))
  have HOB := Lib.hid (fun k (hk : Own b mm L k) => hav1.own_lt hk)
  have HHO := Lib.hid hown
  have hel := encL_lenS L (fun e he => (HGO.out e he).2)
  have CW := Lib.hid (awrite_any (B0 := w1.heap.size) hav (fun e he => (HGO.out e he).2.1) hwr (by simp) (fun ho => by have := HOB.out _ ho; omega) (Nat.le_refl _) (fun w' h' => HT.out w' ((HB2.out.trans (Below.refl _ _)).trans (h'.mono hz1))))
  have HVB := Lib.hid hvb
  clear M1 hav1 hav hcl hown hb2 hwr hvb
  refine CW.out.mono ?_
  rintro e w3 ⟨rfl, hw3, hbl3, hav3, hf3⟩
  have hvb3 := hf3.others _ _ HVB.out (by intro e; injection e with e; omega) (fun c fz e => by injection e with e1 e2 e3; cases e2)
  have HW3 := Lib.hid hw3
  have HVB3 := Lib.hid hvb3
  have HAV3 := Lib.hid hav3
  have HB3 := Lib.hid (HB2.out.trans (hbl3.mono hz1))
  have hz3 := hf3.size
  clear hw3 hbl3 hav3 hf3 hvb3 CW HVB HB2
  go_wp2_with fail
  refine (wbytes_any _ _ _ w3 HW3.out).mono ?_
  rintro e w3' ⟨rfl, rfl⟩
  obtain ⟨s, hs⟩ : ∃ s : ByteArray, s = ⟨([] ++ [40] ++ encL L ++ [41] : List UInt8).toArray⟩ := ⟨_, rfl⟩
  rw [← hs]
  have hdl : s.data.toList = [40] ++ (encL L ++ ([41] ++ [])) := by rw [hs]; simp
  have hss : s.size = (encL L).length + 2 := by
    have e1 : s.size = s.data.toList.length := by simp
    rw [e1, hdl]; simp
  have HS := Lib.hid hs
  clear hs
  go_wp2_with fail
  refine (read_any s w3).mono ?_
  rintro e w4 ⟨rfl, rfl⟩
  have hba : Below w3.heap.size w3 (w3.alloc (.cells #[.string s, .int .i64 0, .int .i64 0, .int .i64 0] 61)) := (Below.refl _ _).alloc (Nat.le_refl _) _
  have hrd := Rd.new s w3 61
  have hz4 : (w3.alloc (.cells #[.string s, .int .i64 0, .int .i64 0, .int .i64 0] 61)).heap.size = w3.heap.size + 1 := by simp
  generalize w3.alloc (.cells #[.string s, .int .i64 0, .int .i64 0, .int .i64 0] 61) = w4 at *
  have HAV4 := Lib.hid (HAV3.out.next hba)
  have HB34 := Lib.hid hba
  have CR := Lib.hid (aread_any w4 hrd L [] (by unfold At; rw [List.drop_zero]; exact hdl) (fun e he => (HGO.out e he).1) HKD.out (by omega) (by omega) (Nat.zero_le _) (by omega))
  clear hba hrd HAV3
  go_wp2_with fail
  refine CR.out.mono ?_
  rintro e w5 ⟨b2, rfl, hb25, hre⟩
  have HRE := Lib.hid hre
  have hAV5 : AV w5 b mm L := HAV4.out.kept fun k hk => hre.only.block k (HAV4.out.own_lt hk) (by have := HOB.out k hk; omega)
  have HAV5 := Lib.hid hAV5
  clear hAV5 hre CR
  go_wp2_with fail
  have hdn : doneE s (0 + 1 + (encL L).length + 1) 0 0 = 0 := by unfold doneE; rw [if_neg (by omega), if_neg (by omega)]
  have CD := Lib.hid (done_any w3.heap.size s (0 + 1 + (encL L).length + 1) 0 0 w5 HRE.out.rd (by omega) (by unfold maxLen; omega))
  rw [hdn] at CD
  refine CD.out.mono ?_
  rintro e w6 ⟨rfl, hr6, ho6⟩
  have HRE6 := Lib.hid (HRE.out.read hr6 ho6)
  have HAV6 := Lib.hid (HAV5.out.kept fun k hk => ho6.block k (HAV5.out.own_lt hk) (by have := HOB.out k hk; omega))
  clear hr6 ho6 CD HRE HAV5 hdn
  obtain ⟨mm2, L2, hav2, hc2, hown2⟩ := HRE6.out.af
  have hl2 : L2.length = L.length := by
    have h := congrArg List.length hc2
    simpa [cont] using h
  have HA2 := Lib.hid hav2
  have HO2 := Lib.hid hown2
  have HC2 := Lib.hid hc2
  clear hav2 hown2 hc2
  go_wp2_with fail
  refine (len_any HA2.out).mono ?_
  rintro e w7 ⟨rfl, hb7⟩
  have HA27 := Lib.hid (HA2.out.next hb7)
  have HAV7 := Lib.hid (HAV6.out.next hb7)
  have HRE7 := Lib.hid (HRE6.out.next hb7)
  clear hb7 HA2 HAV6 HRE6
  go_wp2_with fail
  refine (len_any HAV7.out).mono ?_
  rintro e w8 ⟨rfl, hb8⟩
  have HA28 := Lib.hid (HA27.out.next hb8)
  have HRE8 := Lib.hid (HRE7.out.next hb8)
  clear hb8 HA27 HAV7 HRE7
  go_wp2_with fail
  have hb38 : Below w3.heap.size w3 w8 := HB34.out.trans (HRE8.out.only.below (Nat.le_refl _) (by omega))
  have HW8 := Lib.hid (HW3.out.kept hb38)
  have hvb8 := (hb38.block _ (block_lt HVB3.out)).trans HVB3.out
  have HVB8 := Lib.hid hvb8
  have HB8 := Lib.hid (HB3.out.trans (hb38.mono HB3.out.size))
  have hz8 := hb38.size
  have hgg := HG2.out L2 HC2.out
  have CV := Lib.hid (awrite_any (B0 := w1.heap.size) HA28.out (fun e he => (hgg e he).2.1) (wr_nil hvb8) (by simp) (fun ho => by have := HO2.out _ ho; omega) (by omega) (fun w' h' => HT.out w' (HB8.out.trans (h'.mono (by omega)))))
  rw [encL_cont L L2 HC2.out] at CV
  clear hb38 hvb8 hgg HB34 HRE8 HW3 HVB3 HB3 HA28 HG2 HGO
  refine CV.out.mono ?_
  rintro e w9 ⟨rfl, hw9, hbl9, _, hf9⟩
  have HV9 := Lib.hid hw9
  have HA9 := Lib.hid (HW8.out.wfr hf9 (by omega) HVB8.out)
  have HB9 := Lib.hid (HB8.out.trans (hbl9.mono hz1))
  clear hw9 hbl9 hf9 CV HW8 HVB8 HB8
  go_wp2_with fail
  refine (aawake_any _ (fun w' h' => HT.out w' (HB9.out.trans (h'.mono HB9.out.size)))).mono ?_
  rintro e w10 ⟨rfl, hb10⟩
  have HV10 := Lib.hid (HV9.out.kept hb10)
  have HA10 := Lib.hid (HA9.out.kept hb10)
  have HB10 := Lib.hid (HB9.out.trans (hb10.mono HB9.out.size))
  clear hb10 HV9 HA9 HB9
  go_wp2_with fail
  refine (wbytes_any _ _ _ w10 HV10.out).mono ?_
  rintro e w11 ⟨rfl, rfl⟩
  go_wp2_with fail
  refine (wbytes_any _ _ _ w10 HA10.out).mono ?_
  rintro e w12 ⟨rfl, rfl⟩
  go_wp2_with fail
  go_ret
  exact ⟨by simp, HB10.out⟩
end Go.Proofs.YtjnhaglcigpknaaDoor
