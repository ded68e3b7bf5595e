/-
  CONTRACT of layer 7's Print: by the mathematics of a format; nothing that was there is written.
-/
import Derived.Test.YtipcanbeegladaaGreatDoorFmtW6
import Derived.Deep.AppendLies
import Derived.RegionTactic
import Derived.ChangeAlike
import Derived.Deep.RegionLaw
import Derived.Lib.AppendStr
import Derived.Lib.BufferRead
import Derived.Laws.AppendOwn
namespace Go.Proofs.YtipcanbeegladaaGreatDoor
open Go.RowKit

/-- A value of the language, and a row of them in memory, behind p. -/
structure Ce where
  k : Int
  n : Int
  s : ByteArray
def Ce.va (c : Ce) : Va := vaC c.k c.n c.s
def Ce.vals (t : Ce) : List Value := [.int .i64 t.k, .int .i64 t.n, .string t.s]
theorem add_lt {a : Addr} {k : Nat} (h : a.block < k) (n : Nat) : (a.add n).block < k := by
  have e : (a.add n).block = a.block := by unfold Addr.add; split <;> rfl
  rw [e]; exact h
def CeAt (w : World) (p : Option Addr) (l : List Ce) : Prop :=
  ∀ i (h : i < l.length), ∃ a, p = some a ∧ a.block < w.heap.size ∧ w.cell? (a.add (i * 3)) = some (.int .i64 l[i].k) ∧ w.cell? ⟨(a.add (i * 3)).block, (a.add (i * 3)).off + 1, none⟩ = some (.int .i64 l[i].n) ∧ w.cell? ⟨(a.add (i * 3)).block, (a.add (i * 3)).off + 2, none⟩ = some (.string l[i].s)
theorem CeAt.below {w w' : World} {B : Nat} {p : Option Addr} {l : List Ce} (h : CeAt w p l) (hb : Below B w w') (hB : w.heap.size ≤ B) : CeAt w' p l := fun i hi => by
  obtain ⟨a, h1, h2, h3, h4, h5⟩ := h i hi
  have h2' := Nat.lt_of_lt_of_le h2 hB
  exact ⟨a, h1, Nat.lt_of_lt_of_le h2 hb.size, (hb.cell (p := a.add (i * 3)) (add_lt h2' _)).trans h3, (hb.cell (p := ⟨(a.add (i * 3)).block, (a.add (i * 3)).off + 1, none⟩) (add_lt h2' _)).trans h4, (hb.cell (p := ⟨(a.add (i * 3)).block, (a.add (i * 3)).off + 2, none⟩) (add_lt h2' _)).trans h5⟩
theorem CeAt.nil (w : World) (p : Option Addr) : CeAt w p [] := fun i h => absurd h (by simp)
theorem CeAt.tail {w : World} {a : Addr} {c : Ce} {l : List Ce} (h : CeAt w (some a) (c :: l)) : CeAt w (some (a.add 3)) l := fun i hi => by
  obtain ⟨b, h1, h2, h3, h4, h5⟩ := h (i + 1) (by simpa using hi)
  obtain rfl := Option.some.inj h1
  have e : (a.add 3).add (i * 3) = a.add ((i + 1) * 3) := by
    unfold Addr.add
    rw [show (i + 1) * 3 = 3 + i * 3 by omega]
    by_cases h0 : i = 0
    · subst h0; simp
    · have h3 : ¬ i * 3 = 0 := by omega
      rw [if_neg (by decide : ¬ (3 : Nat) = 0), if_neg h3, if_neg (by omega : ¬ 3 + i * 3 = 0) ]
      simp; omega
  refine ⟨_, rfl, add_lt h2 3, ?_, ?_, ?_⟩
  · rw [e]; exact h3
  · rw [e]; exact h4
  · rw [e]; exact h5
theorem Tryz.infoU8 : (Tryz.prog.info? 5).map (fun i => (i.zero, i.size, i.bytes)) = some (some (.int .u8 0), 1, 1) := by kernel_rfl
theorem info_parts {o : Option TypeInfo} {z : Value} {s b : Nat} (h : o.map (fun i => (i.zero, i.size, i.bytes)) = some (some z, s, b)) : ∃ i, o = some i ∧ i.zero = some z ∧ i.size = s ∧ i.bytes = b := by
  cases o with
  | none => cases h
  | some i => simp at h; exact ⟨i, rfl, h.1, h.2.1, h.2.2⟩
theorem ba_cons (F : ByteArray) (h : 0 < F.size) : F.data.toList = F[0] :: (F.extract 1 F.size).data.toList := by
  have e := (get0_ba F h).1
  rw [extk]
  cases hl : F.data.toList with
  | nil => rw [hl] at e; simp at e
  | cons a l => rw [hl] at e; simp at e; rw [e]; rfl
theorem row_app {w : World} {B : Nat} {v : Value} {l m : List UInt8} (h : w.ownsRow B 5 1 v (l.length + m.length) (Lib.byteCells l ++ Lib.byteCells m)) : w.ownsRow B 5 1 v (l ++ m).length (Lib.byteCells (l ++ m)) := by
  rw [Lib.byteCells_append, List.length_append]; exact h
theorem row_snoc {w : World} {B : Nat} {v : Value} {l : List UInt8} {c : UInt8} (h : w.ownsRow B 5 1 v (l.length + 1) (Lib.byteCells l ++ [Value.int IntKind.u8 c.toNat])) : w.ownsRow B 5 1 v (l ++ [c]).length (Lib.byteCells (l ++ [c])) := by
  rw [Lib.byteCells_append, List.length_append]; exact h
/-- What a round of Print's loop finds: the format that is left, the values that are left, the result so far. -/
structure PrR (s : List UInt8) (vs : List Va) (w : World) (F : ByteArray) (q : Option Addr) (l : List Ce) (ov : Value) (o : List UInt8) (wr : World) : Prop where
  row : wr.ownsRow w.heap.size 5 1 ov o.length (Lib.byteCells o)
  args : CeAt w q l
  fit : ∀ c ∈ l, OkN c.n ∧ c.s.size ≤ 1000
  eq : printL F.data.toList o (l.map Ce.va) = printL s [] vs
  below : Below w.heap.size w wr
theorem row_str {w : World} {B k : Nat} {v : Value} {m : List UInt8} {t : ByteArray} (hk : m.length = k) (h : w.ownsRow B 5 1 v (k + t.size) (Lib.byteCells m ++ Lib.strCells t)) : w.ownsRow B 5 1 v (m ++ t.data.toList).length (Lib.byteCells (m ++ t.data.toList)) := by
  subst hk
  rw [Lib.byteCells_append, List.length_append, Array.length_toList]; exact h
theorem oneL_len3 (c : Cv) (v : Va) (hw : c.width ≤ 1000) (hp : c.prec ≤ 1000) (hv : v.s.length ≤ 1000 ∧ v.n.natAbs < 18446744073709551616) : (oneL c v).length ≤ 3000 := by
  obtain ⟨hs, hn⟩ := hv
  have hd : (v.n.tdiv 1000000).natAbs < 18446744073709551616 := by rw [Int.natAbs_tdiv]; exact Nat.lt_of_le_of_lt (Nat.div_le_self _ _) hn
  unfold oneL
  split
  · rw [fillL_len]
    have : (strL c v).length ≤ 1000 := by unfold strL; split <;> first | exact hs | (simp; omega)
    simp; omega
  · split
    · rw [fillL_len]
      have : (charL v).length ≤ 1 := by unfold charL; split <;> (simp; try omega)
      simp; omega
    · split
      · rw [fillL_len]
        have h1 := signL_len c (decide (v.n < 0))
        have h2 := placesL_len c v.n hn
        have h3 : wantP c ≤ 1000 := by unfold wantP; split <;> omega
        omega
      · rw [fillL_len]
        have h1 := signL_len c (decide (v.n.tdiv 1000000 < 0))
        have h2 := natL_len c _ hd
        have h3 : (digitsL c (v.n.tdiv 1000000)).length ≤ 1000 := by
          unfold digitsL; rw [List.length_append, List.length_replicate]
          have : (if c.precise then c.prec else 1) ≤ 1000 := by split <;> omega
          omega
        omega
theorem conv_yes (s T : ByteArray) (hs : s.size ≤ 1000000) (hT : T.data.toList = cvT s.data.toList) (hE : cvE s.data.toList = 0) (w : World) :
    Calls Tryz.prog 12 #[.string s] w fun e w' => e = .returned (.tuple #[.agg #[.bool (cvOf s.data.toList).left, .bool (cvOf s.data.toList).noughts, .bool (cvOf s.data.toList).plus, .bool (cvOf s.data.toList).blank, .int .i64 ((cvOf s.data.toList).width : Int), .int .i64 ((cvOf s.data.toList).prec : Int), .bool (cvOf s.data.toList).precise, .int .u8 ((cvOf s.data.toList).kind.toNat : Int)], .string T, .int .i64 0]) ∧ Below w.heap.size w w' :=
  (conv_any s T w hs hT).mono fun e w' ⟨h, hb⟩ => ⟨by rw [if_pos hE] at h; exact h, hb⟩
theorem conv_no (s T : ByteArray) (hs : s.size ≤ 1000000) (hT : T.data.toList = cvT s.data.toList) (hE : cvE s.data.toList ≠ 0) (w : World) :
    Calls Tryz.prog 12 #[.string s] w fun e w' => e = .returned (.tuple #[.agg #[.bool false, .bool false, .bool false, .bool false, .int .i64 0, .int .i64 0, .bool false, .int .u8 0], .string ⟨#[]⟩, .int .i64 (cvE s.data.toList)]) ∧ Below w.heap.size w w' :=
  (conv_any s T w hs hT).mono fun e w' ⟨h, hb⟩ => ⟨by rw [if_neg hE] at h; exact h, hb⟩
theorem row_next {w w1 : World} {B n : Nat} {e : TypeId} {k : Nat} {v : Value} {xs : List Value} (h : w.ownsRow B e k v n xs) (hb : Below w.heap.size w w1) : w1.ownsRow B e k v n xs := by
  refine ⟨h.1, ?_⟩
  rcases h.2 with h2 | ⟨g, cap, cur, hv, hg, hh, r⟩
  · exact Or.inl h2
  · exact Or.inr ⟨g, cap, cur, hv, hg, by rw [hb.block g (Array.getElem?_eq_some_iff.1 hh).1]; exact hh, r⟩
theorem PrR.next {s : List UInt8} {vs : List Va} {w wr w1 : World} {F : ByteArray} {q : Option Addr} {l : List Ce} {ov : Value} {o : List UInt8} (h : PrR s vs w F q l ov o wr) (hb : Below wr.heap.size wr w1) : PrR s vs w F q l ov o w1 :=
  ⟨row_next h.row hb, h.args, h.fit, h.eq, h.below.trans (hb.mono h.below.size)⟩
/-- A row of bytes of the call's own, as a slice, and as a string. -/
theorem row_conv {w : World} {B : Nat} {v : Value} {l : List UInt8} (h : w.ownsRow B 5 1 v l.length (Lib.byteCells l)) :
    ∃ a cap, v = .slice a l.length cap ∧ (convert 39 9 (.slice a l.length cap)).run Tryz.prog w = .ok (.string ⟨l.toArray⟩) w := by
  rcases h.2 with ⟨rfl, h0⟩ | ⟨g, cap, cur, rfl, _, hg, _, _, _, htk⟩
  · obtain rfl : l = [] := List.eq_nil_of_length_eq_zero h0
    exact ⟨none, 0, rfl, Lib.run_convert_nil_bytes w _ _ 5 _ Tryz.underlying39 Tryz.underlying5 Tryz.underlying9⟩
  · exact ⟨_, cap, rfl, run_convert_bytes_back (P := Tryz.prog) w 39 9 5 _ cap l Tryz.underlying39 Tryz.underlying5 Tryz.underlying9 (Lib.bytes_of_row hg (by simpa using htk))⟩
def PrPost (s : List UInt8) (vs : List Va) (R : ByteArray) (w : World) (e : Ending) (w' : World) : Prop :=
  e = .returned (.tuple #[.string R, .int .i64 (printL s [] vs).2]) ∧ Below w.heap.size w w'
set_option maxRecDepth 100000 in
set_option maxHeartbeats 4000000 in
theorem fprint_any (s R : ByteArray) (p : Option Addr) (cap : Nat) (l : List Ce) (w : World) (hs : s.size ≤ 2000) (hl : l.length ≤ 1000) (hcap : l.length ≤ cap) (hA : CeAt w p l) (hfit : ∀ c ∈ l, OkN c.n ∧ c.s.size ≤ 1000) (G : Gf w)
    (hR : R.data.toList = (printL s.data.toList [] (l.map Ce.va)).1) :
    Calls Tryz.prog 6 #[.string s, .slice p l.length cap] w (PrPost s.data.toList (l.map Ce.va) R w) := by
  have H0 : Hid (PrR s.data.toList (l.map Ce.va) w s p l (.slice none 0 0) [] w) := Lib.hid ⟨World.ownsRow_nil w _ _ _, hA, hfit, rfl, Below.refl _ _⟩
  have HG := Lib.hid G
  have HR := Lib.hid hR
  clear G hR hA hfit
  generalize l.map Ce.va = vs at *
  go_enter Tryz.func6, Tryz.ntmps6
  go_wp2_with fail
  go_loopw [0, 1, 6] (fun fv av ov wr => ∃ (F : ByteArray) (q : Option Addr) (l : List Ce) (c : Nat) (o : List UInt8), o.length + F.size ≤ 6000 + 1000 ∧ F.size ≤ 2000 ∧ l.length ≤ c ∧ l.length ≤ 1000 ∧ fv = .string F ∧ av = .slice q l.length c ∧ Hid (PrR s.data.toList vs w F q l ov o wr)) (fun fv _ _ _ => (match fv with | .string F => F.size | _ => 0))
  case atStart => exact ⟨s, p, l, cap, [], by simp; omega, hs, hcap, hl, rfl, rfl, H0⟩
  case round =>
    obtain ⟨F, q, l, c, o, ho, hF, hlc, hl, rfl, rfl, HX⟩ := hrel
    by_cases hz : F.size = 0
    · have hn : F.data.toList = [] := List.length_eq_zero_iff.1 (by rw [ba_sz, hz])
      have he : F.toList = [] := by rw [toList_data', hn]
      have he' : F.toList.isEmpty = true := by rw [he]; rfl
      have heq := HX.out.eq
      rw [hn, printL_nil] at heq
      obtain ⟨P, C, rfl, hcv⟩ := row_conv HX.out.row
      have HCV := Lib.hid hcv
      have HB := Lib.hid HX.out.below
      by_cases h4 : 4000 < o.length
      · rw [if_pos h4] at heq
        have h4i : 4000 < (o.length : Int) := by omega
        have HQ := Lib.hid heq
        clear heq hcv HX hn
        go_wp2_with fail
        go_ret2
        refine ⟨?_, HB.out⟩
        have h := HR.out
        rw [← HQ.out] at h ⊢
        rw [nil_ba R h]
        rfl
      · rw [if_neg h4] at heq
        have h4i : ¬ 4000 < (o.length : Int) := by omega
        have HQ := Lib.hid heq
        clear heq HX hn HCV
        go_wp2_with fail
        go_ret2
        refine ⟨?_, HB.out⟩
        have h := HR.out
        rw [← HQ.out] at h ⊢
        rw [← ba_of R _ h]
        rfl
    · have hpos : 0 < F.size := by omega
      have hne : ¬ F.toList = [] := fun h => by have h2 := ba_sz F; rw [← toList_data', h] at h2; simp at h2; omega
      have he' : F.toList.isEmpty = false := by rw [Bool.eq_false_iff, ne_eq, List.isEmpty_iff]; exact hne
      have hposi : 1 ≤ (F.size : Int) := by omega
      by_cases h37 : (F[0].toNat : Int) = 37
      · obtain ⟨F1, hF1⟩ : ∃ X, F.extract 1 F.size = X := ⟨_, rfl⟩
        obtain ⟨T, hT, hTs⟩ := has_ba (cvT F1.data.toList)
        have hsz : F1.size = F.size - 1 := by rw [← hF1]; simp
        have hTl : T.size ≤ F1.size := by rw [hTs, ← ba_sz F1]; exact cvT_len _
        have heq := HX.out.eq
        rw [ba_cons F hpos, hF1, printL_cons, if_neg (by rw [u8_of (c := F[0]) (d := 37) h37]; simp)] at heq
        by_cases hE : cvE F1.data.toList = 0
        · have CV' := Lib.hid fun W => conv_yes F1 T (by omega) hT hE W
          rw [if_neg (by rw [hE]; simp)] at heq
          have HQ := heq
          have HT := Lib.hid hT
          clear heq hT hTs
          by_cases hk : (cvOf F1.data.toList).kind = 37
          · rw [if_pos hk] at HQ
            have hki : ((cvOf F1.data.toList).kind.toNat : Int) = 37 := by rw [hk]; rfl
            rw [hki] at CV'
            have HQ' := Lib.hid HQ
            clear HQ hki hk hE
            generalize cvOf F1.data.toList = cc at *
            obtain ⟨i0, hi, hz0, hz1, hz2⟩ := info_parts Tryz.infoU8
            go_wp2_with fail
            refine (CV'.out _).mono ?_
            rintro e w1 ⟨rfl, hb1⟩
            have HX1 := Lib.hid (HX.out.next hb1)
            clear hb1 HX
            go_wp2_with (at_builtin; refine wpList_append_own _ rfl (.tmp 37) (.tmp 38) 39 rfl w.heap.size 5 i0 (.int .u8 0) 1 1 Tryz.underlying39 hi hz0 hz1 hz2 rfl (by decide) u6 o.length (Lib.byteCells o) rfl ((HX1.out.row.alloc _).alloc _) ⟨w1.heap.size + 1, 0, none⟩ 1 1 [.int .u8 37] rfl rfl ?c1 ?c2 ?c3 ?c4 ?c5 ?_)
            case c1 => intro j u hj; cases j with | zero => simp at hj; subst hj; simp [Addr.add, go_sem] | succ j => simp at hj
            case c2 => simp [Value.oneCell']
            case c3 => unfold maxLen; omega
            case c4 => omega
            case c5 => simp; have := HX1.out.below.size; omega
            intro v4 w4 hown4 hgrow4 _
            have hB4 := ((HX1.out.below.alloc HX1.out.below.size _).alloc (by simp; have := HX1.out.below.size; omega) _).grown hgrow4 (by simp; have := HX1.out.below.size; omega) (fun j hj => (HX1.out.row.lt j hj).1)
            have hrow4 := row_snoc (c := 37) hown4
            have HN : Hid (PrR s.data.toList vs w T q l v4 (o ++ [37]) w4) := Lib.hid ⟨hrow4, HX1.out.args, HX1.out.fit, by rw [HT.out]; exact HQ'.out, hB4⟩
            clear HX1 hown4 hgrow4 hB4 hrow4
            go_wp2_with fail
            go_roundw
            case rel => exact ⟨T, q, l, c, o ++ [37], by rw [List.length_append]; simp; omega, by omega, hlc, hl, rfl, rfl, HN⟩
            case measure => simp; omega
          · have hki : ¬ ((cvOf F1.data.toList).kind.toNat : Int) = 37 := fun h => hk (u8_of h)
            have hkb : (((cvOf F1.data.toList).kind.toNat : Int) == 37) = false := by simpa using hki
            have hcc := cvE_ok hE
            have hw : (cvOf F1.data.toList).width ≤ 1000 := hcc.2.1
            have hp : (cvOf F1.data.toList).prec ≤ 1000 := hcc.2.2.1
            rw [if_neg hk] at HQ
            clear hcc hE hki
            generalize cvOf F1.data.toList = cc at *
            obtain ⟨i0, hi, hz0, hz1, hz2⟩ := info_parts Tryz.infoU8
            go_wp2_with fail
            refine (CV'.out _).mono ?_
            rintro e w1 ⟨rfl, hb1⟩
            have HX1 := Lib.hid (HX.out.next hb1)
            clear hb1 HX
            cases l with
            | nil =>
              obtain ⟨PV, hPV, hPVs⟩ := has_ba (oneL cc noneV)
              have hPVl : PV.size ≤ 1022 := by rw [hPVs]; exact oneL_len cc noneV hw hp ⟨by decide, by decide⟩
              have CP := Lib.hid fun W G => print_any cc 0 0 ⟨#[]⟩ PV W hw hp (by unfold OkN; omega) (by decide) (by decide) hk G hPV
              unfold cva cv at CP
              have HPV := Lib.hid hPV
              clear hPV hPVs
              go_wp2_with fail
              refine (CP.out _ (HG.out.next ((HX1.out.below.alloc HX1.out.below.size _).alloc (by simp; have := HX1.out.below.size; omega) _))).mono ?_
              rintro e w2 ⟨rfl, hb2⟩
              have HX2 := Lib.hid (HX1.out.next (below_new (below_new hb2)))
              clear hb2 HX1
              go_wp2_with (at_builtin; refine Lib.wpList_append_own_string _ rfl (.tmp 48) (.tmp 51) 39 9 rfl w.heap.size 5 i0 Tryz.underlying39 Tryz.underlying9 hi hz0 hz1 hz2 u6 o.length (Lib.byteCells o) rfl HX2.out.row PV rfl ?d1 ?d2 ?d3 ?_)
              case d1 => unfold maxLen; omega
              case d2 => omega
              case d3 => exact HX2.out.below.size
              intro v4 w4 hown4 hgrow4 _
              have hlen : (o ++ PV.data.toList).length = o.length + PV.size := by rw [List.length_append, ba_sz]
              have hB4 := HX2.out.below.grown hgrow4 HX2.out.below.size (fun j hj => (HX2.out.row.lt j hj).1)
              have hrow4 := row_str rfl hown4
              obtain ⟨a4, c4, rfl, -⟩ := row_conv hrow4
              rw [hlen] at hrow4 hown4 ⊢
              have HROW := Lib.hid hrow4
              have HB4 := Lib.hid hB4
              rw [show (([] : List Ce).map Ce.va).headD noneV = noneV from rfl, show (([] : List Ce).map Ce.va).tail = ([] : List Ce).map Ce.va from rfl, ← HPV.out, hlen] at HQ
              by_cases h4 : 4000 < o.length + PV.size
              · rw [if_pos h4] at HQ
                have HQ' := Lib.hid HQ
                have h4i : 4000 < (o.length : Int) + (PV.size : Int) := by omega
                clear HQ HX2 hown4 hgrow4 hB4 hrow4 CP hlen
                go_wp2_with fail
                go_ret2
                refine ⟨?_, HB4.out⟩
                have h := HR.out
                rw [← HQ'.out] at h ⊢
                rw [nil_ba R h]
                rfl
              · rw [if_neg h4] at HQ
                have HN : Hid (PrR s.data.toList vs w T q [] (.slice a4 (o.length + PV.size) c4) (o ++ PV.data.toList) w4) := Lib.hid ⟨by rw [hlen]; exact HROW.out, CeAt.nil _ _, (fun c hc => by cases hc), by rw [HT.out]; exact HQ, HB4.out⟩
                have h4i : ¬ 4000 < (o.length : Int) + (PV.size : Int) := by omega
                clear HQ HX2 hown4 hgrow4 hB4 hrow4 CP
                go_wp2_with fail
                go_roundw
                case rel => exact ⟨T, q, [], c, o ++ PV.data.toList, by rw [hlen]; omega, by omega, hlc, hl, rfl, rfl, HN⟩
                case measure => simp; omega
            | cons d l =>
              obtain ⟨a, rfl, hab, k0, k1, k2⟩ := HX1.out.args 0 (by simp)
              have hfd := HX1.out.fit d (by simp)
              have hl1 : 1 ≤ c := by simp at hlc; omega
              rw [show a.add (0 * 3) = a from rfl] at k0 k1 k2
              have hab1 : a.block < w1.heap.size := Nat.lt_of_lt_of_le hab HX1.out.below.size
              have m0 := (HX1.out.below.cell (p := a) hab).trans k0
              have m1 := (HX1.out.below.cell (p := ⟨a.block, a.off + 1, none⟩) hab).trans k1
              have m2 := (HX1.out.below.cell (p := ⟨a.block, a.off + 2, none⟩) hab).trans k2
              simp only [List.getElem_cons_zero] at m0 m1 m2
              clear k0 k1 k2
              obtain ⟨q2, hq2, HQ2⟩ : ∃ q2, (if c = 1 then some a else some { block := a.block, off := a.off + 3 }) = q2 ∧ Hid (CeAt w q2 l) := by
                by_cases h : c = 1
                · refine ⟨_, rfl, Lib.hid ?_⟩
                  have : l = [] := List.eq_nil_of_length_eq_zero (by simp at hlc; omega)
                  rw [this]; exact CeAt.nil _ _
                · exact ⟨_, rfl, Lib.hid (by rw [if_neg h]; exact HX1.out.args.tail)⟩
              have HFIT := Lib.hid fun x (hx : x ∈ l) => HX1.out.fit x (List.mem_cons_of_mem _ hx)
              obtain ⟨PV, hPV, hPVs⟩ := has_ba (oneL cc d.va)
              have hstr : (strC d.k d.n d.s).size ≤ 1000 := by
                unfold strC; split
                · rw [ba_mk]; have := text_len40 d.n hfd.1; omega
                · exact hfd.2
              have hPVl : PV.size ≤ 3000 := by
                rw [hPVs]
                exact oneL_len3 cc d.va hw hp ⟨by show (strC d.k d.n d.s).data.toList.length ≤ 1000; rw [ba_sz]; omega, by have := numC_ok (kk := d.k) (s := d.s) hfd.1; unfold OkN at this; show (numC d.k d.n d.s).natAbs < _; omega⟩
              have CP := Lib.hid fun W G => print_any cc d.k d.n d.s PV W hw hp hfd.1 (by omega) (by omega) hk G hPV
              unfold cva cv at CP
              have HPV := Lib.hid hPV
              clear hPV hPVs hstr hfd
              go_wp2_with fail
              generalize hX : Obj.cells #[Value.bool cc.left, Value.bool cc.noughts, Value.bool cc.plus, Value.bool cc.blank, Value.int .i64 (cc.width : Int), Value.int .i64 (cc.prec : Int), Value.bool cc.precise, Value.int .u8 (cc.kind.toNat : Int)] 41 = X
              generalize hY : Obj.cells #[Value.int .i64 0, Value.int .i64 0, Value.string ⟨#[]⟩] 36 = Y
              have hW : (((w1.alloc X).alloc Y).cell? a = some (.int .i64 d.k) ∧ ((w1.alloc X).alloc Y).cell? ⟨a.block, a.off + 1, none⟩ = some (.int .i64 d.n) ∧ ((w1.alloc X).alloc Y).cell? ⟨a.block, a.off + 2, none⟩ = some (.string d.s)) ∧
                  (((w1.alloc X).alloc Y).cell? ⟨w1.heap.size, 0, none⟩ = some (.bool cc.left) ∧ ((w1.alloc X).alloc Y).cell? ⟨w1.heap.size, 1, none⟩ = some (.bool cc.noughts) ∧ ((w1.alloc X).alloc Y).cell? ⟨w1.heap.size, 2, none⟩ = some (.bool cc.plus) ∧ ((w1.alloc X).alloc Y).cell? ⟨w1.heap.size, 3, none⟩ = some (.bool cc.blank) ∧ ((w1.alloc X).alloc Y).cell? ⟨w1.heap.size, 4, none⟩ = some (.int .i64 (cc.width : Int)) ∧ ((w1.alloc X).alloc Y).cell? ⟨w1.heap.size, 5, none⟩ = some (.int .i64 (cc.prec : Int)) ∧ ((w1.alloc X).alloc Y).cell? ⟨w1.heap.size, 6, none⟩ = some (.bool cc.precise) ∧ ((w1.alloc X).alloc Y).cell? ⟨w1.heap.size, 7, none⟩ = some (.int .u8 (cc.kind.toNat : Int))) ∧
                  (((w1.alloc X).alloc Y).cell? ⟨w1.heap.size + 1, 0, none⟩ = some (.int .i64 0) ∧ ((w1.alloc X).alloc Y).cell? ⟨w1.heap.size + 1, 1, none⟩ = some (.int .i64 0) ∧ ((w1.alloc X).alloc Y).cell? ⟨w1.heap.size + 1, 2, none⟩ = some (.string ⟨#[]⟩) ∧ ((w1.alloc X).alloc Y).frozen? ⟨w1.heap.size + 1, 0, none⟩ = false ∧ ((w1.alloc X).alloc Y).frozen? ⟨w1.heap.size + 1, 1, none⟩ = false ∧ ((w1.alloc X).alloc Y).frozen? ⟨w1.heap.size + 1, 2, none⟩ = false) ∧
                  Below w1.heap.size w1 ((w1.alloc X).alloc Y) := by
                have hb : Below w1.heap.size w1 ((w1.alloc X).alloc Y) := ((Below.refl _ _).alloc (Nat.le_refl _) _).alloc (by simp) _
                refine ⟨⟨(hb.cell (p := a) hab1).trans m0, (hb.cell (p := ⟨a.block, a.off + 1, none⟩) hab1).trans m1, (hb.cell (p := ⟨a.block, a.off + 2, none⟩) hab1).trans m2⟩, ?_, ?_, hb⟩
                · rw [← hX]
                  refine ⟨?_, ?_, ?_, ?_, ?_, ?_, ?_, ?_⟩ <;> simp [go_sem]
                · rw [← hY]
                  refine ⟨?_, ?_, ?_, ?_, ?_, ?_⟩ <;> simp [go_sem]
              clear hX hY m0 m1 m2
              obtain ⟨B, hB⟩ : ∃ B, w1.heap.size = B := ⟨_, rfl⟩
              obtain ⟨⟨m0, m1, m2⟩, ⟨g0, g1, g2, g3, g4, g5, g6, g7⟩, ⟨n0, n1, n2, f0, f1, f2⟩, hWb⟩ := hW
              have HX6 := Lib.hid (HX1.out.next ((((hWb.setCell (p := ⟨w1.heap.size + 1, 0, none⟩) (Nat.le_succ _) (.int .i64 d.k)).setCell (p := ⟨w1.heap.size + 1, 1, none⟩) (Nat.le_succ _) (.int .i64 d.n)).setCell (p := ⟨w1.heap.size + 1, 2, none⟩) (Nat.le_succ _) (.string d.s)).drew))
              clear hWb HX1
              rw [hB] at *
              generalize (w1.alloc X).alloc Y = w5 at *
              clear hB hab1 hab
              go_region
              go_wp2_with fail
              refine (CP.out _ (HG.out.next HX6.out.below)).mono ?_
              rintro e w2 ⟨rfl, hb2⟩
              have HX7 := Lib.hid (HX6.out.next hb2)
              clear hb2 HX6
              go_wp2_with (at_builtin; refine Lib.wpList_append_own_string _ rfl (.tmp 48) (.tmp 51) 39 9 rfl w.heap.size 5 i0 Tryz.underlying39 Tryz.underlying9 hi hz0 hz1 hz2 u6 o.length (Lib.byteCells o) rfl HX7.out.row PV rfl ?d1 ?d2 ?d3 ?_)
              case d1 => unfold maxLen; omega
              case d2 => omega
              case d3 => exact HX7.out.below.size
              intro v4 w4 hown4 hgrow4 _
              have hlen : (o ++ PV.data.toList).length = o.length + PV.size := by rw [List.length_append, ba_sz]
              have hB4 := HX7.out.below.grown hgrow4 HX7.out.below.size (fun j hj => (HX7.out.row.lt j hj).1)
              have hrow4 := row_str rfl hown4
              obtain ⟨a4, c4, rfl, -⟩ := row_conv hrow4
              rw [hlen] at hrow4 hown4 ⊢
              have HROW := Lib.hid hrow4
              have HB4 := Lib.hid hB4
              rw [show ((d :: l).map Ce.va).headD noneV = d.va from rfl, show ((d :: l).map Ce.va).tail = l.map Ce.va from rfl, ← HPV.out, hlen] at HQ
              by_cases h4 : 4000 < o.length + PV.size
              · rw [if_pos h4] at HQ
                have HQ' := Lib.hid HQ
                have h4i : 4000 < (o.length : Int) + (PV.size : Int) := by omega
                clear HQ HX7 hown4 hgrow4 hB4 hrow4 CP hlen
                go_wp2_with fail
                go_ret2
                refine ⟨?_, HB4.out⟩
                have h := HR.out
                rw [← HQ'.out] at h ⊢
                rw [nil_ba R h]
                rfl
              · rw [if_neg h4] at HQ
                have HN : Hid (PrR s.data.toList vs w T q2 l (.slice a4 (o.length + PV.size) c4) (o ++ PV.data.toList) w4) := Lib.hid ⟨by rw [hlen]; exact HROW.out, HQ2.out, HFIT.out, by rw [HT.out]; exact HQ, HB4.out⟩
                have h4i : ¬ 4000 < (o.length : Int) + (PV.size : Int) := by omega
                clear HQ HX7 hown4 hgrow4 hB4 hrow4 CP
                go_wp2_with fail
                go_roundw
                case rel => exact ⟨T, q2, l, (c - 1), o ++ PV.data.toList, by rw [hlen]; omega, by omega, by simp at hlc; omega, by simp at hl; omega, rfl, rfl, HN⟩
                case measure => simp; omega
        · have CV' := Lib.hid fun W => conv_no F1 T (by omega) hT hE W
          rw [if_pos hE] at heq
          have HQ := Lib.hid heq
          have HB := Lib.hid HX.out.below
          generalize cvE F1.data.toList = E at *
          have hEn : (E == 0) = false := by simpa using hE
          clear heq hT hTs HX
          go_wp2_with fail
          refine (CV'.out _).mono ?_
          rintro e w1 ⟨rfl, hb1⟩
          have HB1 := Lib.hid (HB.out.trans (hb1.mono HB.out.size))
          clear hb1 HB
          go_wp2_with fail
          go_ret2
          refine ⟨?_, ((HB1.out.alloc HB1.out.size _))⟩
          have h := HR.out
          rw [← HQ.out] at h ⊢
          rw [nil_ba R h]
          rfl
      · obtain ⟨i0, hi, hz0, hz1, hz2⟩ := info_parts Tryz.infoU8
        go_wp2_with fail
        go_region_law ((refine step_append_lies _ (by rfl) (.tmp 16) (.tmp 19) 39 (by rfl) w.heap.size 5 i0 (.int .u8 0) 1 1 Tryz.underlying39 hi hz0 hz1 hz2 rfl (by decide) u6 o.length (Lib.byteCells o) (by rfl) (by exact HX.out.row.alloc _) ⟨wr.heap.size, 0, none⟩ 1 1 [.int .u8 (F[0].toNat : Int)] (by rfl) rfl (by intro j u hj; cases j with | zero => simp at hj; subst hj; simp [Addr.add, go_sem] | succ j => simp at hj) (by simp [Value.oneCell']) (by decide) (by unfold maxLen; omega) (by omega) (by simp; have := HX.out.below.size; omega) _ rfl ?_; intro g cap w1 hown1 hgrow hat hlt))
        have HN : Hid (PrR s.data.toList vs w (F.extract 1 F.size) q l (.slice (some ⟨g, 0, none⟩) (o.length + 1) cap) (o ++ [F[0]]) w1) := Lib.hid ⟨row_snoc hown1, HX.out.args, HX.out.fit, by
          have h := HX.out.eq
          rw [ba_cons F hpos, printL_cons, if_pos (fun h => h37 (by rw [h]; rfl))] at h
          exact h, (HX.out.below.alloc HX.out.below.size _).drew.grown hgrow (by simp; have := HX.out.below.size; omega) (fun j hj => (HX.out.row.lt j hj).1)⟩
        have hsz : (F.extract 1 F.size).size = F.size - 1 := by simp
        clear hown1 hgrow hat HX
        simp only [Act.put, List.getElem_toArray, List.getElem_cons_succ, List.getElem_cons_zero]
        go_simp
        go_wp2_with fail
        go_roundw
        case rel => exact ⟨F.extract 1 F.size, q, l, c, o ++ [F[0]], by rw [hsz, List.length_append]; simp; omega, by rw [hsz]; omega, hlc, hl, rfl, rfl, HN⟩
        case measure => simp; omega
end Go.Proofs.YtipcanbeegladaaGreatDoor
