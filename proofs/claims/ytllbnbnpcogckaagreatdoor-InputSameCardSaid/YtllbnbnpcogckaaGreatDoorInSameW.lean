/-
  THE WALK of the law InputSame: whatever the texts, it returns true and writes to nothing that was there.
-/
import Derived.Test.YtllbnbnpcogckaaGreatDoorInM2
import Derived.Test.YtllbnbnpcogckaaGreatDoorInW9
import Derived.Deep.QuietTactic
import Derived.BigQuiet
namespace Go.Proofs.YtllbnbnpcogckaaGreatDoor
open Go.RowKit

theorem szL_self (l : List Ce) (n : Nat) (h : n = l.length) : szL l n = l := by
  unfold szL
  rw [h, List.take_length, List.drop_of_length_le (by simp), List.append_nil]
theorem stL_self (l : List Ce) (k : Nat) (h : k < l.length) : stL l k l[k] = l := by
  have e : szL l (max (k + 1) l.length) = l := szL_self l _ (by omega)
  unfold stL
  rw [e]
  simp
/-- What both loops find: the record, the row of its fields as they were. -/
structure SmR (w : World) (b : Nat) (T : ByteArray) (l : List Ce) (v0 : Value) (wr : World) : Prop where
  rcd : ∃ v, Rec wr b T l v
  row : wr.ownsRow (b + 1) 42 3 v0 l.length (ceRow l)
  below : Below w.heap.size w wr
theorem SmR.next {w : World} {b : Nat} {T : ByteArray} {l : List Ce} {v0 : Value} {wr w1 : World} (h : SmR w b T l v0 wr) (hb : Below wr.heap.size wr w1) : SmR w b T l v0 w1 := by
  obtain ⟨v, hv⟩ := h.rcd
  exact ⟨⟨v, hv.next hb⟩, own_next h.row hb, h.below.trans (hb.mono h.below.size)⟩
theorem SmR.set {w : World} {b : Nat} {T T' : ByteArray} {l : List Ce} {v0 v : Value} {wr w1 : World} (h : SmR w b T l v0 wr) (hbw : w.heap.size ≤ b) (hr : Rec w1 b T' l v) (ho : Onl b wr w1) : SmR w b T' l v0 w1 :=
  ⟨⟨v, hr⟩, own_kept h.row fun g hg => ho.block g (h.row.lt g hg).2 (by have := (h.row.lt g hg).1; omega), h.below.trans (ho.below hbw h.below.size)⟩
set_option maxHeartbeats 8000000 in
set_option maxRecDepth 100000 in
theorem same_in (s0 o0 s ofs T1 : ByteArray) (L : List Ce) (w : World) (HG : Hid (Gi w)) (hL : L.length ≤ 100) (hT1 : T1.size ≤ 1000) (hos : ofs.size ≤ 5) (hssz : s.size ≤ 60)
    (AW : Hid (∀ W, Gi W → Calls Tryz.prog 10 #[] W fun e w' => e = .returned (.bool true) ∧ Below W.heap.size W w'))
    (C1 : Hid (∀ W, Calls Tryz.prog 8 #[.string s0, .int .i64 60] W fun e w' => e = .returned (.string s) ∧ W = w'))
    (C2 : Hid (∀ W, Calls Tryz.prog 8 #[.string o0, .int .i64 5] W fun e w' => e = .returned (.string ofs) ∧ W = w'))
    (CL : Hid (∀ W b x y, W.heap[b]? = some (.cells #[x, y] 35 (0, 0)) → Gi W → Calls Tryz.prog 12 #[.pointer (some ⟨b, 0, none⟩), .string s, .string ⟨#[32]⟩] W (LdPost b s L W)))
    (CF : Hid (∀ W b T v, Rec W b T L v → Calls Tryz.prog 19 #[.pointer (some ⟨b, 0, none⟩)] W (FdPost L W)))
    (CS : Hid (∀ W b T v k (h : k < L.length), Rec W b T L v → Gi W → Calls Tryz.prog 15 #[.pointer (some ⟨b, 0, none⟩), .int .i64 ((k : Int) + 1), .agg #[.int .i64 L[k].k, .int .i64 L[k].n, .string L[k].s], .string ⟨#[32]⟩, .string ofs] W (LdPost b T1 L W)))
    (CT : Hid (∀ k (h : k < L.length) W, Gi W → Calls Tryz.prog 20 #[.agg #[.int .i64 L[k].k, .int .i64 L[k].n, .string L[k].s]] W fun e w' => e = .returned (.string (strC L[k].k L[k].n L[k].s)) ∧ Below W.heap.size W w'))
    (hT : Hid (T1.data.toList = jk L ofs.data.toList L.length)) :
    Calls Tryz.prog 7 #[.string s0, .string o0] w fun e w' => e = .returned (.bool true) ∧ Below w.heap.size w w' := by
  go_enter Tryz.func7, Tryz.ntmps7
  go_wp2_with fail
  refine (C1.out _).mono ?_
  rintro e w1 ⟨rfl, rfl⟩
  go_wp2_with fail
  refine (C2.out _).mono ?_
  rintro e w1 ⟨rfl, rfl⟩
  have hnew : (w.alloc (.cells #[.string ⟨#[]⟩, .slice none 0 0] 35)).heap[w.heap.size]? = some (.cells #[.string ⟨#[]⟩, .slice none 0 0] 35 (0, 0)) := by
    show (w.heap.push _)[w.heap.size]? = _
    exact Array.getElem?_push_size
  have HNEW := Lib.hid hnew
  have HB1 := Lib.hid (show Below w.heap.size w (w.alloc (.cells #[.string ⟨#[]⟩, .slice none 0 0] 35)) from (Below.refl _ _).alloc (Nat.le_refl _) _)
  clear hnew C1 C2
  go_wp2_with fail
  refine (CL.out _ _ _ _ HNEW.out (HG.out.next HB1.out)).mono ?_
  rintro e w2 ⟨rfl, v2, hr2, -, ho2⟩
  have HR2 := Lib.hid hr2
  have HB2 := Lib.hid (HB1.out.trans (ho2.below (B := w.heap.size) (Nat.le_refl _) (by simp)))
  clear hr2 ho2 HNEW HB1 CL
  go_wp2_with fail
  refine (CF.out _ _ _ _ HR2.out).mono ?_
  rintro e w3 ⟨v3, rfl, ho3, hb3⟩
  obtain ⟨p, c, rfl⟩ := own_form ho3
  have HI : Hid (SmR w w.heap.size s L (.slice p L.length c) w3) := Lib.hid ⟨⟨_, HR2.out.next hb3⟩, own_mono ho3 (by have := HR2.out.lt; omega), HB2.out.trans (hb3.mono HB2.out.size)⟩
  clear ho3 hb3 HR2 HB2
  go_wp2_with fail
  go_loopw [22] (fun iv wr => ∃ k : Nat, k ≤ L.length ∧ iv = .int .i64 k ∧ Hid (SmR w w.heap.size (if k = 0 then s else T1) L (.slice p L.length c) wr)) (fun iv _ => L.length - (intOf iv).toNat)
  case atStart => exact ⟨0, Nat.zero_le _, rfl, Lib.hid (by rw [if_pos rfl]; exact HI.out)⟩
  case round =>
    obtain ⟨k, hk, rfl, HX⟩ := hrel
    clear HI
    by_cases hlt : k < L.length
    · have hki : (k : Int) < (L.length : Int) := by omega
      obtain ⟨g, rfl⟩ : ∃ g, p = some ⟨g, 0, none⟩ := by
        rcases HX.out.row.2 with ⟨h1, h0⟩ | ⟨g, cap, cur, h1, _⟩
        · omega
        · injection h1 with h1 _ _; exact ⟨g, h1⟩
      obtain ⟨c0, c1, c2⟩ := ce_cells HX.out.row k hlt hlt
      have CS' := Lib.hid fun W T v h G => CS.out W w.heap.size T v k hlt h G
      generalize L[k].k = ek at *
      generalize L[k].n = en at *
      generalize L[k].s = es at *
      have HX1 := Lib.hid (HX.out.next ((Below.refl wr.heap.size wr).alloc (Nat.le_refl _) (.cells #[.int .i64 ek, .int .i64 en, .string es] 42)))
      obtain ⟨vr, hvr⟩ := HX1.out.rcd
      have HVR := Lib.hid hvr
      clear hvr
      go_wp2_with fail
      refine (CS'.out _ _ _ HVR.out (HG.out.next HX1.out.below)).mono ?_
      rintro e w4 ⟨rfl, v4, hr4, -, ho4⟩
      have HN : Hid (SmR w w.heap.size (if k + 1 = 0 then s else T1) L (.slice (some ⟨g, 0, none⟩) L.length c) w4) := Lib.hid (by
        rw [if_neg (Nat.succ_ne_zero k)]
        exact HX1.out.set (Nat.le_refl _) hr4 ho4)
      clear hr4 ho4 HX HX1 HVR c0 c1 c2 CS'
      go_wp2_with fail
      go_roundw
      case rel => exact ⟨k + 1, by omega, by go_num, HN⟩
      case measure => simp [intOf]; omega
    · have hki : ¬ (k : Int) < (L.length : Int) := by omega
      have hkl : k = L.length := by omega
      rw [hkl] at HX
      clear hlt hk
      obtain ⟨vr, hvr⟩ := HX.out.rcd
      have HVR := Lib.hid hvr
      clear hvr CS
      go_wp2_with fail
      refine (CF.out _ _ _ _ HVR.out).mono ?_
      rintro e w5 ⟨v5, rfl, ho5, hb5⟩
      obtain ⟨q, d, rfl⟩ := own_form ho5
      have HI2 : Hid (SmR w w.heap.size (if L.length = 0 then s else T1) L (.slice p L.length c) w5 ∧ w5.ownsRow 0 42 3 (.slice q L.length d) L.length (ceRow L)) := Lib.hid ⟨HX.out.next hb5, own_mono ho5 (Nat.zero_le _)⟩
      clear ho5 hb5 HX HVR CF
      go_wp2_with fail
      go_loopw [10, 37] (fun tv iv wx => ∃ (i : Nat) (X : ByteArray), i ≤ L.length ∧ X.size ≤ 1000 ∧ tv = .string X ∧ iv = .int .i64 (i : Int) ∧ Hid (SmR w w.heap.size (if L.length = 0 then s else T1) L (.slice p L.length c) wx ∧ wx.ownsRow 0 42 3 (.slice q L.length d) L.length (ceRow L)) ∧ Hid (X.data.toList = jk L ofs.data.toList i)) (fun _ iv _ => L.length - (intOf iv).toNat)
      case atStart => exact ⟨0, ⟨#[]⟩, Nat.zero_le _, by decide, rfl, rfl, HI2, Lib.hid rfl⟩
      case round =>
        obtain ⟨i, X, hi, hX, rfl, rfl, HY, HXt⟩ := hrel
        clear HI2
        by_cases hil : i < L.length
        · have hii : (i : Int) < (L.length : Int) := by omega
          obtain ⟨g0, rfl⟩ : ∃ g, p = some ⟨g, 0, none⟩ := by
            rcases HY.out.1.row.2 with ⟨h1, h0⟩ | ⟨g, cap, cur, h1, _⟩
            · omega
            · injection h1 with h1 _ _; exact ⟨g, h1⟩
          obtain ⟨g1, rfl⟩ : ∃ g, q = some ⟨g, 0, none⟩ := by
            rcases HY.out.2.2 with ⟨h1, h0⟩ | ⟨g, cap, cur, h1, _⟩
            · omega
            · injection h1 with h1 _ _; exact ⟨g, h1⟩
          obtain ⟨c0, c1, c2⟩ := ce_cells HY.out.1.row i hil hil
          obtain ⟨d0, d1, d2⟩ := ce_cells HY.out.2 i hil hil
          have CT' := Lib.hid (CT.out i hil)
          have hsu := jk_succ L ofs.data.toList i
          rw [List.getD_eq_getElem?_getD, List.getElem?_eq_getElem hil] at hsu
          simp only [Option.getD_some] at hsu
          have hcx : ctx L[i] = (strC L[i].k L[i].n L[i].s).data.toList := rfl
          obtain ⟨S, hS⟩ : ∃ S, strC L[i].k L[i].n L[i].s = S := ⟨_, rfl⟩
          rw [hS] at CT' hcx
          rw [hcx] at hsu
          have hle := jk_le L ofs.data.toList (show i + 1 ≤ L.length by omega)
          rw [← hT.out, ba_sz, hsu, List.length_append, List.length_append, ba_sz, ← HXt.out, ba_sz] at hle
          rw [← HXt.out] at hsu
          have HSU := Lib.hid hsu
          clear hsu hcx hS
          generalize L[i].k = ek at *
          generalize L[i].n = en at *
          generalize L[i].s = es at *
          have hdr : Below wr.heap.size wr wr.drew := (Below.refl _ _).drew
          have HYd : Hid (SmR w w.heap.size (if L.length = 0 then s else T1) L (.slice (some ⟨g0, 0, none⟩) L.length c) wr.drew ∧ wr.drew.ownsRow 0 42 3 (.slice (some ⟨g1, 0, none⟩) L.length d) L.length (ceRow L)) := Lib.hid ⟨HY.out.1.next hdr, own_next HY.out.2 hdr⟩
          clear HY hdr
          by_cases hi0 : i = 0
          · rw [if_pos hi0] at hle
            have hXS : (X ++ S).size ≤ 1000 := by rw [ByteArray.size_append]; omega
            have hcs : ¬ 9223372036854775807 < X.size + S.size := by omega
            have hgi : ¬ (0 : Int) < (i : Int) := by omega
            have HN : Hid ((X ++ S).data.toList = jk L ofs.data.toList (i + 1)) := Lib.hid (by
              rw [HSU.out, if_pos hi0, List.append_nil, ByteArray.data_append, Array.toList_append])
            clear HSU hle hi0
            go_wp2_with fail
            go_region
            go_wp2_with fail
            refine (CT'.out _ (HG.out.next HYd.out.1.below)).mono ?_
            rintro e w6 ⟨rfl, hb6⟩
            have HN2 := Lib.hid (And.intro (HYd.out.1.next hb6) (own_next HYd.out.2 hb6))
            clear hb6 HYd CT'
            go_wp2_with fail
            go_roundw
            case rel => exact ⟨i + 1, X ++ S, by omega, hXS, rfl, by go_num, HN2, HN⟩
            case measure => simp [intOf]; omega
          · rw [if_neg hi0, ba_sz] at hle
            have hXS : (X ++ ofs ++ S).size ≤ 1000 := by rw [ByteArray.size_append, ByteArray.size_append]; omega
            have hcs1 : ¬ 9223372036854775807 < X.size + ofs.size := by omega
            have hcs2 : ¬ 9223372036854775807 < X.size + ofs.size + S.size := by omega
            have hgi : (0 : Int) < (i : Int) := by omega
            have HN : Hid ((X ++ ofs ++ S).data.toList = jk L ofs.data.toList (i + 1)) := Lib.hid (by
              rw [HSU.out, if_neg hi0, ByteArray.data_append, ByteArray.data_append, Array.toList_append, Array.toList_append])
            clear HSU hle hi0
            go_wp2_with fail
            go_region
            go_wp2_with fail
            refine (CT'.out _ (HG.out.next HYd.out.1.below)).mono ?_
            rintro e w6 ⟨rfl, hb6⟩
            have HN2 := Lib.hid (And.intro (HYd.out.1.next hb6) (own_next HYd.out.2 hb6))
            clear hb6 HYd CT'
            go_wp2_with fail
            go_roundw
            case rel => exact ⟨i + 1, X ++ ofs ++ S, by omega, hXS, rfl, by go_num, HN2, HN⟩
            case measure => simp [intOf]; omega
        · have hii : ¬ (i : Int) < (L.length : Int) := by omega
          have hie : i = L.length := by omega
          rw [hie] at HXt
          have hXe : X = T1 := WideShapes.bytes_inj (by rw [HXt.out, hT.out])
          have HYX := Lib.hid (And.intro HY.out.1 hXe)
          clear HXt hXe hT
          by_cases hn0 : L.length = 0
          · have hsm := HYX.out.1
            rw [if_pos hn0] at hsm
            have HSM := Lib.hid hsm
            have H0 := Lib.hid (show L = [] from List.eq_nil_of_length_eq_zero hn0)
            clear HYX hsm HY hn0
            go_wp2_with fail
            refine (AW.out _ (HG.out.next HSM.out.below)).mono ?_
            rintro e w6 ⟨rfl, hb6⟩
            have HSM6 := Lib.hid (HSM.out.next hb6)
            obtain ⟨vr, hvr⟩ := HSM6.out.rcd
            have CTX := Lib.hid (rtext_any hvr (by omega))
            have h0 := H0.out
            clear hb6 hvr HSM
            go_wp2_with fail
            refine CTX.out.mono ?_
            rintro e w7 ⟨rfl, hb7⟩
            have HB7 := Lib.hid (HSM6.out.below.trans (hb7.mono HSM6.out.below.size))
            clear hb7 HSM6 CTX
            go_wp2_with fail
            go_ret
            exact ⟨rfl, HB7.out⟩
          · have hsm := HYX.out.1
            rw [if_neg hn0] at hsm
            obtain rfl := HYX.out.2
            have HSM := Lib.hid hsm
            have H0 := Lib.hid (show ¬ L = [] from fun e => hn0 (by rw [e]; rfl))
            clear HYX hsm HY hn0
            go_wp2_with fail
            refine (AW.out _ (HG.out.next HSM.out.below)).mono ?_
            rintro e w6 ⟨rfl, hb6⟩
            have HSM6 := Lib.hid (HSM.out.next hb6)
            obtain ⟨vr, hvr⟩ := HSM6.out.rcd
            have CTX := Lib.hid (rtext_any hvr (by omega))
            have h0 := H0.out
            clear hb6 hvr HSM
            go_wp2_with fail
            refine CTX.out.mono ?_
            rintro e w7 ⟨rfl, hb7⟩
            have HB7 := Lib.hid (HSM6.out.below.trans (hb7.mono HSM6.out.below.size))
            clear hb7 HSM6 CTX
            go_wp2_with fail
            go_ret
            exact ⟨rfl, HB7.out⟩
theorem same_walk (s0 o0 : ByteArray) (w0 : s0.size ≤ maxLen) (w1 : o0.size ≤ maxLen) (w : World) (G : Gi w) :
    Calls Tryz.prog 7 #[.string s0, .string o0] w fun e w' => e = .returned (.bool true) ∧ Below w.heap.size w w' := by
  obtain ⟨s, hs⟩ : ∃ s, cutB s0 60 = s := ⟨_, rfl⟩
  obtain ⟨o, ho⟩ : ∃ o, cutB o0 5 = o := ⟨_, rfl⟩
  have C1 : Hid (∀ W, Calls Tryz.prog 8 #[.string s0, .int .i64 60] W fun e w' => e = .returned (.string s) ∧ W = w') := Lib.hid fun W => by
    have := cut_any s0 60 W w0 (by omega)
    rw [hs] at this; exact this
  have C2 : Hid (∀ W, Calls Tryz.prog 8 #[.string o0, .int .i64 5] W fun e w' => e = .returned (.string o) ∧ W = w') := Lib.hid fun W => by
    have := cut_any o0 5 W w1 (by omega)
    rw [ho] at this; exact this
  have hsz : s.size ≤ 60 := by rw [← hs]; exact cutB_size s0 60
  have hoz : o.size ≤ 5 := by rw [← ho]; exact cutB_size o0 5
  have hsep : (⟨#[32]⟩ : ByteArray).size = 1 := rfl
  have hl0 := fields_len s ⟨#[32]⟩ hsep
  have hs0 := sum_blank s
  have ho0 := ok_blank s (by omega)
  have CL : ∀ W b x y, W.heap[b]? = some (.cells #[x, y] 35 (0, 0)) → Gi W → Calls Tryz.prog 12 #[.pointer (some ⟨b, 0, none⟩), .string s, .string ⟨#[32]⟩] W (LdPost b s ((fieldsB s ⟨#[32]⟩).map inC) W) :=
    fun W b x y hx G => load_any b x y s ⟨#[32]⟩ W (by omega) hsep (by omega) hx G
  have hcs : ∀ c ∈ (fieldsB s ⟨#[32]⟩).map inC, c.s.size ≤ 60 := by
    intro c hc
    obtain ⟨f, hf, rfl⟩ := List.mem_map.1 hc
    have := fields_small s ⟨#[32]⟩ f hf
    exact Nat.le_trans this hsz
  generalize hL : (fieldsB s ⟨#[32]⟩).map inC = L at *
  have hln : L.length ≤ 61 := by rw [← hL, List.length_map]; omega
  clear hL hl0
  have hT1 := jk_fits L o.data.toList L.length
  rw [ba_sz] at hT1
  have hmul : L.length * o.size ≤ 61 * 5 := Nat.mul_le_mul hln hoz
  obtain ⟨T1, e1⟩ : ∃ T : ByteArray, T.data.toList = jk L o.data.toList L.length := ⟨⟨(jk L o.data.toList L.length).toArray⟩, rfl⟩
  have z1 : T1.size ≤ 1000 := by rw [← ba_sz, e1]; omega
  refine same_in s0 o0 s o T1 L w (Lib.hid G) (by omega) z1 hoz hsz (Lib.hid fun W G => iawake_any W G) C1 C2 (Lib.hid CL) (Lib.hid fun W b T v h => rfields_any h (by omega) (fun c hc => by have := hcs c hc; omega)) (Lib.hid fun W b T v k hk h G => ?_) (Lib.hid fun k hk W G => ?_) (Lib.hid e1)
  · have hst := stL_self L k hk
    have hmx : max (k + 1) L.length = L.length := by omega
    have := rset_any h k L[k] (by omega) (by omega) ⟨#[32]⟩ o T1 (by have := hcs _ (List.getElem_mem hk); omega) (by rw [hst]; exact ho0) (by rw [hst, hmx]; exact e1) (by omega) (by omega) G
    rw [hst] at this
    exact this
  · have h1 := ho0 _ (List.getElem_mem hk)
    exact cstr_any L[k].k L[k].n L[k].s W h1.1 (by have := h1.2; omega) G.gl
end Go.Proofs.YtllbnbnpcogckaaGreatDoor
