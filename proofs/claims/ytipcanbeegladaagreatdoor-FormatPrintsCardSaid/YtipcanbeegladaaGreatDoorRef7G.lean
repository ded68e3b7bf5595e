/-
  CONTRACT of the document's own answer for layer 7: Print by the mathematics of a format; nothing that was there is written.
-/
import Derived.Test.YtipcanbeegladaaGreatDoorRef7F
import Derived.Test.YtipcanbeegladaaGreatDoorFmtW7
namespace Go.Proofs.YtipcanbeegladaaGreatDoor
open Go.RowKit

theorem cvT_suffix (r : List UInt8) : cvT r <:+ r := by
  have d : ∀ (p : UInt8 → Bool) (l : List UInt8), l.dropWhile p <:+ l := fun p l => List.dropWhile_suffix p
  have h1 : cR1 r <:+ r := (d _ _).trans (d _ _)
  have h2 : cR2 r <:+ r := by
    unfold cR2; split
    · exact (d _ _).trans ((List.drop_suffix _ _).trans h1)
    · exact h1
  exact (List.drop_suffix _ _).trans h2
theorem cvT_at (f : ByteArray) (q : Nat) : f.data.toList.drop (q + ((f.data.toList.drop q).length - (cvT (f.data.toList.drop q)).length)) = cvT (f.data.toList.drop q) := by
  rw [← List.drop_drop]
  exact (List.suffix_iff_eq_drop.1 (cvT_suffix _)).symm
/-- What a round of the document's Print finds. -/
structure RpR (f : List UInt8) (vs : List Va) (w : World) (at' : Nat) (l : List Ce) (u : Nat) (ov : Value) (o : List UInt8) (wr : World) : Prop where
  row : wr.ownsRow w.heap.size 5 1 ov o.length (Lib.byteCells o)
  eq : printL (f.drop at') o ((l.drop u).map Ce.va) = printL f [] vs
  below : Below w.heap.size w wr
theorem RpR.next {f : List UInt8} {vs : List Va} {w wr w1 : World} {a u : Nat} {l : List Ce} {ov : Value} {o : List UInt8} (h : RpR f vs w a l u ov o wr) (hb : Below wr.heap.size wr w1) : RpR f vs w a l u ov o w1 :=
  ⟨row_next h.row hb, h.eq, h.below.trans (hb.mono h.below.size)⟩
theorem drop_cons (f : ByteArray) (q : Nat) (h : q < f.size) : f.data.toList.drop q = f[q] :: f.data.toList.drop (q + 1) := by
  have := rdrop_at f q 0 (by omega)
  simpa using this
set_option maxRecDepth 100000 in
set_option maxHeartbeats 4000000 in
theorem rfprint_any (f R : ByteArray) (p : Option Addr) (cap : Nat) (l : List Ce) (w : World) (hs : f.size ≤ 2000) (hl : l.length ≤ 1000) (hA : CeAt w p l) (hfit : ∀ c ∈ l, OkN c.n ∧ c.s.size ≤ 1000)
    (hR : R.data.toList = (printL f.data.toList [] (l.map Ce.va)).1) :
    Calls Tryz.prog 7 #[.string f, .slice p l.length cap] w (PrPost f.data.toList (l.map Ce.va) R w) := by
  have H0 : Hid (RpR f.data.toList (l.map Ce.va) w 0 l 0 (.slice (some ⟨w.heap.size, 0, none⟩) 0 0) [] (w.alloc (.cells #[] 5))) := Lib.hid ⟨World.ownsRow_lit w #[] 0 (Nat.le_refl _) (by decide) rfl, rfl, (Below.refl _ _).alloc (Nat.le_refl _) _⟩
  have HA := Lib.hid hA
  have HFIT := Lib.hid hfit
  have HR := Lib.hid hR
  have CRD := Lib.hid fun q W (h : q ≤ f.size) => rread_any f q W (by omega) h
  clear hR hA hfit
  generalize hvs : l.map Ce.va = vs at *
  go_enter Tryz.func7, Tryz.ntmps7
  go_wp2_with fail
  go_loopw [6, 7, 8] (fun ov uv av wr => ∃ (o : List UInt8) (u a : Nat), a ≤ f.size ∧ u ≤ a ∧ o.length + (f.size - a) ≤ 7000 ∧ uv = .int .i64 (u : Int) ∧ av = .int .i64 (a : Int) ∧ Hid (RpR f.data.toList vs w a l u ov o wr)) (fun _ _ av _ => f.size - (intOf av).toNat)
  case atStart => exact ⟨[], 0, 0, by omega, by omega, by simp; omega, rfl, rfl, H0⟩
  case round =>
    obtain ⟨o, u, a, ha, hu, ho, rfl, rfl, HX⟩ := hrel
    by_cases hlt : a < f.size
    · have heq := HX.out.eq
      rw [drop_cons f a hlt, printL_cons] at heq
      obtain ⟨i0, hi, hz0, hz1, hz2⟩ := info_parts Tryz.infoU8
      by_cases h37 : (f[a].toNat : Int) = 37
      · have h37b : ((f[a].toNat : Int) != 37) = false := by simpa using h37
        rw [if_neg (by rw [u8_of (c := f[a]) (d := 37) h37]; simp)] at heq
        have CR := Lib.hid fun W => CRD.out (a + 1) W hlt
        go_wp2_with fail
        refine (CR.out _).mono ?_
        rintro e w1 ⟨⟨F, wd, pr, v, nx, rfl, hcv⟩, hb1⟩
        have HX1 := Lib.hid (HX.out.next hb1)
        clear hb1 HX CR
        unfold spi
        by_cases hE : cvE (f.data.toList.drop (a + 1)) = 0
        · rw [if_neg (by rw [hE]; simp)] at heq
          obtain ⟨e1, rfl, e3, rfl, rfl⟩ := hcv hE
          have hcc := cvE_ok hE
          have hatn := cvT_at f (a + 1)
          have hcl : 1 ≤ ((f.data.toList.drop (a + 1)).length - (cvT (f.data.toList.drop (a + 1))).length) ∧ a + 1 + ((f.data.toList.drop (a + 1)).length - (cvT (f.data.toList.drop (a + 1))).length) ≤ f.size := by
            have h1 : (f.data.toList.drop (a + 1)).length = f.size - (a + 1) := by rw [List.length_drop, ba_sz]
            have h2 : (cvT (f.data.toList.drop (a + 1))).length < (cR2 (f.data.toList.drop (a + 1))).length := by
              have := List.length_pos_iff.2 hcc.1
              unfold cvT; rw [List.length_drop]; omega
            have h3 := cR2_len (f.data.toList.drop (a + 1))
            omega
          obtain ⟨a2, ha2⟩ : ∃ a2, a + 1 + ((f.data.toList.drop (a + 1)).length - (cvT (f.data.toList.drop (a + 1))).length) = a2 := ⟨_, rfl⟩
          have hl45 : F.data.toList.contains 45 = (cvOf (f.data.toList.drop (a + 1))).left := by rw [e1]; rfl
          have hl48 : F.data.toList.contains 48 = (cvOf (f.data.toList.drop (a + 1))).noughts := by rw [e1]; rfl
          have hl43 : F.data.toList.contains 43 = (cvOf (f.data.toList.drop (a + 1))).plus := by rw [e1]; rfl
          have hl32 : F.data.toList.contains 32 = (cvOf (f.data.toList.drop (a + 1))).blank := by rw [e1]; rfl
          have hFs : F.size ≤ 2000 := by
            rw [← ba_sz, e1]
            have := takeW_len isF (f.data.toList.drop (a + 1))
            rw [List.length_drop, ba_sz] at this
            omega
          have e4 : pr = if (cvOf (f.data.toList.drop (a + 1))).precise then ((cvOf (f.data.toList.drop (a + 1))).prec : Int) else -1 := e3
          have e5 : (cW (f.data.toList.drop (a + 1)) : Int) = ((cvOf (f.data.toList.drop (a + 1))).width : Int) := rfl
          have hw1 : (cvOf (f.data.toList.drop (a + 1))).width ≤ 1000 := hcc.2.1
          have hp1 : (cvOf (f.data.toList.drop (a + 1))).prec ≤ 1000 := hcc.2.2.1
          have hkl := hcc.2.2.2.1
          have hcl1' : a + 1 ≤ a2 := by omega
          rw [ha2] at hatn hcl ⊢
          rw [← hatn] at heq
          rw [e5, hE]
          have hpb : -1 ≤ pr ∧ pr ≤ 1000 := by rw [e4]; split <;> omega
          clear hcv hE hcc e1 e3 ha2 hatn e5
          generalize cvOf (f.data.toList.drop (a + 1)) = cc at *
          have HCC := Lib.hid (And.intro hl45 (And.intro hl48 (And.intro hl43 (And.intro hl32 (And.intro e4 hkl)))))
          obtain ⟨hcl1, hcl2⟩ : a + 1 ≤ a2 ∧ a2 ≤ f.size := ⟨hcl1', hcl.2⟩
          clear hl45 hl48 hl43 hl32 e4 hkl hcl hcl1'
          by_cases hk : cc.kind = 37
          · rw [if_pos hk] at heq
            have HQ := Lib.hid heq
            have hki : (cc.kind.toNat : Int) = 37 := by rw [hk]; rfl
            rw [hki]
            clear heq hk hki
            go_wp2_with (at_builtin; refine wpList_append_own _ rfl (.tmp 44) (.tmp 45) 39 rfl w.heap.size 5 i0 (.int .u8 0) 1 1 Tryz.underlying39 hi hz0 hz1 hz2 rfl (by decide) u6 o.length (Lib.byteCells o) rfl ((HX1.out.row.alloc _).alloc _) ⟨w1.heap.size + 1, 0, none⟩ 1 1 [.int .u8 37] rfl rfl ?b1 ?b2 ?b3 ?b4 ?b5 ?_)
            case b1 => intro j x hj; cases j with | zero => simp at hj; subst hj; simp [Addr.add, go_sem] | succ j => simp at hj
            case b2 => simp [Value.oneCell']
            case b3 => unfold maxLen; omega
            case b4 => omega
            case b5 => simp; have := HX1.out.below.size; omega
            intro v4 w4 hown4 hgrow4 _
            have hB4 := ((HX1.out.below.alloc HX1.out.below.size _).alloc (by simp; have := HX1.out.below.size; omega) _).grown hgrow4 (by simp; have := HX1.out.below.size; omega) (fun j hj => (HX1.out.row.lt j hj).1)
            have hrow4 := row_snoc (c := 37) hown4
            have HN : Hid (RpR f.data.toList vs w a2 l u v4 (o ++ [37]) w4) := Lib.hid ⟨hrow4, HQ.out, hB4⟩
            clear HX1 hown4 hgrow4 hB4 hrow4 HQ
            go_wp2_with fail
            go_roundw
            case rel => exact ⟨o ++ [37], u, a2, hcl2, by omega, by rw [List.length_append]; simp; omega, rfl, rfl, HN⟩
            case measure => simp [intOf]; omega
          · have hki : ((cc.kind.toNat : Int) == 37) = false := by
              rw [beq_eq_false_iff_ne]; exact fun h => hk (u8_of (c := cc.kind) (d := 37) h)
            rw [if_neg hk] at heq
            have hlk : (l.drop u).map Ce.va = (if h : u < l.length then l[u].va :: (l.drop (u + 1)).map Ce.va else []) := by
              split
              · rename_i h; rw [List.drop_eq_getElem_cons h]; rfl
              · rename_i h; rw [List.drop_of_length_le (by omega)]; rfl
            rw [hlk] at heq
            obtain ⟨D, hD, hDo, hDh, hDt⟩ : ∃ D : Ce, (u < l.length ∧ l[u]? = some D ∨ ¬ u < l.length ∧ D = ⟨0, 0, ⟨#[]⟩⟩) ∧ (OkN D.n ∧ D.s.size ≤ 1000) ∧ (if h : u < l.length then l[u].va :: (l.drop (u + 1)).map Ce.va else []).headD noneV = D.va ∧ (if h : u < l.length then l[u].va :: (l.drop (u + 1)).map Ce.va else []).tail = (l.drop (u + 1)).map Ce.va := by
              by_cases hul : u < l.length
              · refine ⟨l[u], .inl ⟨hul, List.getElem?_eq_getElem hul⟩, HFIT.out _ (List.getElem_mem hul), ?_, ?_⟩
                · rw [dif_pos hul]; rfl
                · rw [dif_pos hul]; rfl
              · refine ⟨⟨0, 0, ⟨#[]⟩⟩, .inr ⟨hul, rfl⟩, ⟨by unfold OkN; decide, by decide⟩, ?_, ?_⟩
                · rw [dif_neg hul]; rfl
                · rw [dif_neg hul, List.drop_of_length_le (by omega)]; rfl
            rw [hDh, hDt] at heq
            obtain ⟨PV, hPV, hPVs⟩ := has_ba (oneL cc D.va)
            have hstr : (strC D.k D.n D.s).size ≤ 1000 := by
              unfold strC; split
              · rw [ba_mk]; have := text_len40 D.n hDo.1; omega
              · exact hDo.2
            have hPVl : PV.size ≤ 3000 := by
              rw [hPVs]
              exact oneL_len3 cc D.va hw1 hp1 ⟨by show (strC D.k D.n D.s).data.toList.length ≤ 1000; rw [ba_sz]; omega, by have := numC_ok (kk := D.k) (s := D.s) hDo.1; unfold OkN at this; show (numC D.k D.n D.s).natAbs < _; omega⟩
            have CP := Lib.hid fun W => rone_any cc F pr (a2 : Int) D.k D.n D.s PV W (by omega) HCC.out.1 HCC.out.2.1 HCC.out.2.2.1 HCC.out.2.2.2.1 hw1 hp1 HCC.out.2.2.2.2.1 hDo.1 hstr hDo.2 HCC.out.2.2.2.2.2 hk hPV
            unfold spi at CP
            rw [← hPV] at heq
            have HQ := Lib.hid heq
            obtain ⟨dk, dn, ds⟩ := D
            clear hlk hDh hDt heq hPV hPVs hstr hk HCC hDo
            have HBW : Hid (Below w1.heap.size w1 ((w1.alloc (.cells #[.string F, .int .i64 (cc.width : Int), .int .i64 pr, .int .u8 (cc.kind.toNat : Int), .int .i64 (a2 : Int)] 46)).alloc (.cells #[.int .i64 dk, .int .i64 dn, .string ds] 50))) := Lib.hid (((Below.refl _ _).alloc (Nat.le_refl _) _).alloc (by simp) _)
            rcases hD with ⟨hul, hD⟩ | ⟨hul, hD⟩
            · obtain ⟨a0, rfl, hab, k0, k1, k2⟩ := HA.out u hul
              have hDe : l[u] = ⟨dk, dn, ds⟩ := by rw [List.getElem?_eq_getElem hul] at hD; exact Option.some.inj hD
              rw [hDe] at k0 k1 k2
              have hab1 : a0.block < w1.heap.size := Nat.lt_of_lt_of_le hab HX1.out.below.size
              have hba : (a0.add (u * 3)).block = a0.block := by unfold Addr.add; split <;> rfl
              have m0 := (HX1.out.below.cell (p := a0.add (u * 3)) (add_lt hab _)).trans k0
              have m1 := (HX1.out.below.cell (p := ⟨(a0.add (u * 3)).block, (a0.add (u * 3)).off + 1, none⟩) (add_lt hab _)).trans k1
              have m2 := (HX1.out.below.cell (p := ⟨(a0.add (u * 3)).block, (a0.add (u * 3)).off + 2, none⟩) (add_lt hab _)).trans k2
              have haddl : (a0.add (u * 3)).block < w1.heap.size := by rw [hba]; exact hab1
              have huli : (u : Int) < (l.length : Int) := by omega
              clear k0 k1 k2 hD hDe hab1 hba
              go_wp2_with fail
              refine (CP.out _).mono ?_
              rintro e w2 ⟨rfl, hb2⟩
              have HX2 := Lib.hid (HX1.out.next (HBW.out.trans (hb2.mono HBW.out.size)))
              clear hb2 HX1 HBW
              go_wp2_with (at_builtin; refine Lib.wpList_append_own_string _ rfl (.tmp 58) (.tmp 61) 39 9 rfl w.heap.size 5 i0 Tryz.underlying39 Tryz.underlying9 hi hz0 hz1 hz2 u6 o.length (Lib.byteCells o) rfl HX2.out.row PV rfl ?x1 ?x2 ?x3 ?_)
              case x1 => unfold maxLen; omega
              case x2 => omega
              case x3 => exact HX2.out.below.size
              intro v4 w4 hown4 hgrow4 _
              have hlen : (o ++ PV.data.toList).length = o.length + PV.size := by rw [List.length_append, ba_sz]
              have hB4 := HX2.out.below.grown hgrow4 HX2.out.below.size (fun j hj => (HX2.out.row.lt j hj).1)
              have hrow4 := row_str rfl hown4
              obtain ⟨a4, c4, rfl, -⟩ := row_conv hrow4
              rw [hlen] at hrow4 hown4 ⊢
              have HROW := Lib.hid hrow4
              have HB4 := Lib.hid hB4
              by_cases h4 : 4000 < o.length + PV.size
              · have HQ' : Hid (([], 12) = printL f.data.toList [] vs) := Lib.hid (by have h := HQ.out; rw [hlen, if_pos h4] at h; exact h)
                have h4i : 4000 < (o.length : Int) + (PV.size : Int) := by omega
                clear HQ HX2 hown4 hgrow4 hB4 hrow4 CP hlen
                go_wp2_with fail
                go_ret2
                refine ⟨?_, HB4.out⟩
                have h := HR.out
                rw [← HQ'.out] at h ⊢
                rw [nil_ba R h]
                rfl
              · have HN : Hid (RpR f.data.toList vs w a2 l (u + 1) (.slice a4 (o.length + PV.size) c4) (o ++ PV.data.toList) w4) := Lib.hid ⟨by rw [hlen]; exact HROW.out, by have h := HQ.out; rw [hlen, if_neg h4] at h; exact h, HB4.out⟩
                have h4i : ¬ 4000 < (o.length : Int) + (PV.size : Int) := by omega
                clear HQ HX2 hown4 hgrow4 hB4 hrow4 CP
                go_wp2_with fail
                go_roundw
                case rel => exact ⟨o ++ PV.data.toList, u + 1, a2, hcl2, by omega, by rw [hlen]; omega, by go_num, rfl, HN⟩
                case measure => simp [intOf]; omega
            · obtain ⟨rfl, rfl, rfl⟩ : dk = 0 ∧ dn = 0 ∧ ds = ⟨#[]⟩ := by cases hD; exact ⟨rfl, rfl, rfl⟩
              have huli : ¬ (u : Int) < (l.length : Int) := by omega
              clear hD
              go_wp2_with fail
              refine (CP.out _).mono ?_
              rintro e w2 ⟨rfl, hb2⟩
              have HX2 := Lib.hid (HX1.out.next (HBW.out.trans (hb2.mono HBW.out.size)))
              clear hb2 HX1 HBW
              go_wp2_with (at_builtin; refine Lib.wpList_append_own_string _ rfl (.tmp 58) (.tmp 61) 39 9 rfl w.heap.size 5 i0 Tryz.underlying39 Tryz.underlying9 hi hz0 hz1 hz2 u6 o.length (Lib.byteCells o) rfl HX2.out.row PV rfl ?y1 ?y2 ?y3 ?_)
              case y1 => unfold maxLen; omega
              case y2 => omega
              case y3 => exact HX2.out.below.size
              intro v4 w4 hown4 hgrow4 _
              have hlen : (o ++ PV.data.toList).length = o.length + PV.size := by rw [List.length_append, ba_sz]
              have hB4 := HX2.out.below.grown hgrow4 HX2.out.below.size (fun j hj => (HX2.out.row.lt j hj).1)
              have hrow4 := row_str rfl hown4
              obtain ⟨a4, c4, rfl, -⟩ := row_conv hrow4
              rw [hlen] at hrow4 hown4 ⊢
              have HROW := Lib.hid hrow4
              have HB4 := Lib.hid hB4
              by_cases h4 : 4000 < o.length + PV.size
              · have HQ' : Hid (([], 12) = printL f.data.toList [] vs) := Lib.hid (by have h := HQ.out; rw [hlen, if_pos h4] at h; exact h)
                have h4i : 4000 < (o.length : Int) + (PV.size : Int) := by omega
                clear HQ HX2 hown4 hgrow4 hB4 hrow4 CP hlen
                go_wp2_with fail
                go_ret2
                refine ⟨?_, HB4.out⟩
                have h := HR.out
                rw [← HQ'.out] at h ⊢
                rw [nil_ba R h]
                rfl
              · have HN : Hid (RpR f.data.toList vs w a2 l (u + 1) (.slice a4 (o.length + PV.size) c4) (o ++ PV.data.toList) w4) := Lib.hid ⟨by rw [hlen]; exact HROW.out, by have h := HQ.out; rw [hlen, if_neg h4] at h; exact h, HB4.out⟩
                have h4i : ¬ 4000 < (o.length : Int) + (PV.size : Int) := by omega
                clear HQ HX2 hown4 hgrow4 hB4 hrow4 CP
                go_wp2_with fail
                go_roundw
                case rel => exact ⟨o ++ PV.data.toList, u + 1, a2, hcl2, by omega, by rw [hlen]; omega, by go_num, rfl, HN⟩
                case measure => simp [intOf]; omega
        · rw [if_pos hE] at heq
          have HQ := Lib.hid heq
          have hEb : ((cvE (f.data.toList.drop (a + 1))) != 0) = true := by simpa using hE
          clear heq hcv hE
          go_wp2_with fail
          go_ret2
          refine ⟨?_, (HX1.out.below.alloc HX1.out.below.size _)⟩
          have h := HR.out
          rw [← HQ.out] at h ⊢
          rw [nil_ba R h]
          rfl
      · have h37b : ((f[a].toNat : Int) != 37) = true := by simpa using h37
        rw [if_pos (fun h => h37 (by rw [h]; rfl))] at heq
        have HQ := Lib.hid heq
        have hcell := f[a].toNat_lt
        clear heq h37
        go_wp2_with (at_builtin; refine wpList_append_own _ rfl (.tmp 21) (.tmp 25) 39 rfl w.heap.size 5 i0 (.int .u8 0) 1 1 Tryz.underlying39 hi hz0 hz1 hz2 rfl (by decide) u6 o.length (Lib.byteCells o) rfl (HX.out.row.alloc _) ⟨wr.heap.size, 0, none⟩ 1 1 [.int .u8 (f[a].toNat : Int)] rfl rfl ?c1 ?c2 ?c3 ?c4 ?c5 ?_)
        case c1 => intro j x hj; cases j with | zero => simp at hj; subst hj; simp [Addr.add, go_sem] | succ j => simp at hj
        case c2 => simp [Value.oneCell']
        case c3 => unfold maxLen; omega
        case c4 => omega
        case c5 => simp; have := HX.out.below.size; omega
        intro v4 w4 hown4 hgrow4 _
        have hB4 := (HX.out.below.alloc HX.out.below.size _).grown hgrow4 (by simp; have := HX.out.below.size; omega) (fun j hj => (HX.out.row.lt j hj).1)
        have hrow4 := row_snoc hown4
        have HN : Hid (RpR f.data.toList vs w (a + 1) l u v4 (o ++ [f[a]]) w4) := Lib.hid ⟨hrow4, HQ.out, hB4⟩
        clear HX hown4 hgrow4 hB4 hrow4 HQ
        go_wp2_with fail
        go_roundw
        case rel => exact ⟨o ++ [f[a]], u, a + 1, hlt, by omega, by rw [List.length_append]; simp; omega, rfl, by go_num, HN⟩
        case measure => simp [intOf]; omega
    · obtain rfl : a = f.size := by omega
      have heq := HX.out.eq
      rw [List.drop_of_length_le (by rw [ba_sz]; exact Nat.le_refl _), printL_nil] at heq
      obtain ⟨P, C, rfl, hcv⟩ := row_conv HX.out.row
      have HCV := Lib.hid hcv
      have HB := Lib.hid HX.out.below
      by_cases h4 : 4000 < o.length
      · rw [if_pos h4] at heq
        have h4i : 4000 < (o.length : Int) := by omega
        have HQ := Lib.hid heq
        clear heq hcv HX
        go_wp2_with fail
        go_ret2
        refine ⟨?_, HB.out⟩
        have h := HR.out
        rw [← HQ.out] at h ⊢
        rw [nil_ba R h]
        rfl
      · rw [if_neg h4] at heq
        have h4i : ¬ 4000 < (o.length : Int) := by omega
        have HQ := Lib.hid heq
        clear heq HX HCV
        go_wp2_with fail
        go_ret2
        refine ⟨?_, HB.out⟩
        have h := HR.out
        rw [← HQ.out] at h ⊢
        rw [← ba_of R _ h]
        rfl
end Go.Proofs.YtipcanbeegladaaGreatDoor
