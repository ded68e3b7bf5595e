/-
  CONTRACT of the document's own reader of sets (scriberef09.set): by the mathematics of a set, over the bytes left.
-/
import Derived.Test.YtjjejcgpeefclaaDoorMq4
import Derived.Deep.CutRange
import Derived.Deep.DeepCutAuto
import Derived.Lib.BufferRead
namespace Go.Proofs.YtjjejcgpeefclaaDoor
open Go.RowKit

theorem sg_head (s : ByteArray) (q : Nat) (c : UInt8) : (sgZ s q == (c.toNat : Int)) = decide ((s.data.toList.drop q).head? = some c) := by
  unfold sgZ
  by_cases h : q < s.size
  · rw [dif_pos h, rq_drop s q h, Bool.eq_iff_iff]
    simp only [beq_iff_eq, decide_eq_true_eq, List.head?_cons, Option.some.injEq]
    constructor
    · intro h; apply UInt8.toNat_inj.1; omega
    · intro h; rw [h]
  · rw [dif_neg h, rq_nil s q h, Bool.eq_iff_iff]
    simp only [beq_iff_eq, List.head?_nil]
    constructor
    · intro h; omega
    · intro h; cases h
structure SeR (w : World) (s : ByteArray) (dp bd : Int) (n : Nat) (nt : Bool) (X : PR RT) (i : Nat) (a er b' : Int) (has : List UInt8) (v : Value) (wr : World) : Prop where
  rs : Rs2 w w.heap.size (w.heap.size + 1) s a dp er b' wr
  row : wr.ownsRow (w.heap.size + 2) 5 1 v has.length (Lib.byteCells has)
/-- Where a set's loop stands. -/
def SeSt (s : ByteArray) (bd : Int) (n : Nat) (nt : Bool) (X : PR RT) (i : Nat) (a er b' : Int) (has : List UInt8) : Prop :=
  (er = 0 ∧ b' = bd ∧ ∃ q : Nat, a = (q : Int) ∧ i + 1 ≤ q ∧ q ≤ s.size ∧ SetEq n nt X i has (s.data.toList.drop q)) ∨ (er = 9 ∧ ∃ n0 : Nat, X = .error (n0, 9) ∧ n0 ≤ s.size ∧ b' = ((s.size - n0 : Nat) : Int))
/-- What a set's reader hands back. -/
def SePost (s : ByteArray) (dp bd : Int) (X : PR RT) (w : World) (e : Ending) (w' : World) : Prop :=
  (∃ (a er b' : Int) (T : ByteArray), e = .returned (.tuple #[rsv s a dp er b', .string T]) ∧ 0 ≤ a ∧ a ≤ (s.size : Int) + 3 ∧
    ((∃ st r, X = .ok (.mk 1 st [], r) ∧ r <:+ s.data.toList ∧ a = ((s.size - r.length : Nat) : Int) ∧ er = 0 ∧ b' = bd ∧ SetIs 1 st T) ∨
     (∃ n0 : Nat, X = .error (n0, 9) ∧ n0 ≤ s.size ∧ er = 9 ∧ b' = ((s.size - n0 : Nat) : Int)))) ∧ Below w.heap.size w w'
theorem set_results (w : World) (b : Nat) (arr : Array Value) (s : ByteArray) (a dp er bd : Int) (T : ByteArray) (h : Ss w b s a dp er bd) (h2 : arr[2]?.getD undef = (.pointer (some ⟨b, 0, none⟩))) (h3 : arr[3]?.getD undef = .string T) :
    (results Tryd.f67 arr).run Tryd.prog w = .ok (.tuple #[rsv s a dp er bd, .string T]) w := by
  obtain ⟨c0, c1, c2, c3, c4, -⟩ := h
  simp [results, Tryd.results67, go_sem, rsv, c0, c1, c2, c3, c4, h2, h3]
theorem rq_conv {w : World} {B g m c : Nat} {l : List UInt8} (hm : m = l.length) (h : w.ownsRow B 5 1 (.slice (some ⟨g, 0, none⟩) m c) m (Lib.byteCells l)) :
    (convert 130 9 (.slice (some ⟨g, 0, none⟩) m c)).run Tryd.prog w = .ok (.string ⟨l.toArray⟩) w := by
  subst hm
  rcases h.2 with ⟨h0, _⟩ | ⟨g', cap, cur, h0, _, hg, _, _, _, htk⟩
  · cases h0
  · cases h0
    exact run_convert_bytes_back (P := Tryd.prog) w 130 9 5 _ c l Tryd.underlying130 Tryd.underlying5 Tryd.underlying9 (Lib.bytes_of_row hg (by simpa using htk))
/-- Where an item stands when both its bytes are read; and when they are held against one another. -/
def HiSt (s : ByteArray) (b' : Int) (n : Nat) (X : PR RT) (p : Nat) (lo hi : UInt8) (a2 e2 b2 : Int) : Prop := (e2 = 0 ∧ b2 = b' ∧ ∃ p2 : Nat, a2 = (p2 : Int) ∧ p + 1 ≤ p2 ∧ p2 ≤ s.size ∧ (spanR withW n (s.data.toList.drop p) = if hi < lo then .error (n, 9) else .ok (rangeW withW lo hi, s.data.toList.drop p2))) ∨ (e2 = 9 ∧ ∃ n0, X = .error (n0, 9) ∧ n0 ≤ s.size ∧ b2 = ((s.size - n0 : Nat) : Int))
def HiF (s : ByteArray) (b' : Int) (n : Nat) (X : PR RT) (p : Nat) (lo hi : UInt8) (a2 e2 b2 : Int) : Prop := (e2 = 0 ∧ b2 = b' ∧ ∃ p2 : Nat, a2 = (p2 : Int) ∧ p + 1 ≤ p2 ∧ p2 ≤ s.size ∧ spanR withW n (s.data.toList.drop p) = .ok (rangeW withW lo hi, s.data.toList.drop p2)) ∨ (e2 = 9 ∧ ∃ n0, X = .error (n0, 9) ∧ n0 ≤ s.size ∧ b2 = ((s.size - n0 : Nat) : Int))
theorem u8_beq2 (a c : UInt8) : ((a.toNat : Int) == (c.toNat : Int)) = (a == c) := by
  rw [Bool.eq_iff_iff]
  simp only [beq_iff_eq]
  constructor
  · intro h; apply UInt8.toNat_inj.1; omega
  · rintro rfl; rfl
theorem esc_lt {s : ByteArray} {p : Nat} {y : UInt8} (h : escO s (p + 1) = some y) : p + 2 ≤ s.size := by
  rcases Nat.lt_or_ge (p + 1) s.size with h2 | h2
  · exact h2
  · unfold escO at h; rw [dif_neg (by omega)] at h; cases h
/-- Behind an escape: the new place is laid into the reader's own. -/
theorem esc_back {w0 w5 : World} {s : ByteArray} {a dp er bd : Int} {g m c : Nat} {has : List UInt8} (H : Rs2 w0 w0.heap.size (w0.heap.size + 1) s a dp er bd w5) (R : w5.ownsRow (w0.heap.size + 2) 5 1 (.slice (some ⟨g, 0, none⟩) m c) m (Lib.byteCells has)) (o : Obj) (a' dp' er' bd' : Int) :
    Rs2 w0 w0.heap.size (w0.heap.size + 1) s a' dp' er' bd' ((putS w5 w0.heap.size s a' dp' er' bd').alloc o) ∧ ((putS w5 w0.heap.size s a' dp' er' bd').alloc o).ownsRow (w0.heap.size + 2) 5 1 (.slice (some ⟨g, 0, none⟩) m c) m (Lib.byteCells has) := by
  refine ⟨(H.put s a' dp' er' bd').keep ((Below.refl _ _).alloc (Nat.le_refl _) _), ?_⟩
  refine rg_own_kept R (fun k hk => ?_)
  have hb := rg_own_base R k hk
  rw [((Below.refl _ (putS w5 w0.heap.size s a' dp' er' bd')).alloc (Nat.le_refl _) o).block k (by rw [putS_size]; exact hb.2)]
  exact putS_block (by omega) _ _ _ _ _
set_option maxHeartbeats 8000000 in
set_option maxRecDepth 100000 in
theorem sset_any (s : ByteArray) (q : Nat) (dp bd : Int) (hs : s.size ≤ 300) (hq1 : 1 ≤ q) (hq : q ≤ s.size) (w : World) :
    Calls Tryd.prog 67 #[rsv s (q : Int) dp 0 bd] w (SePost s dp bd (setR withW notW orW (s.data.toList.drop q)) w) := by
  have CS := Lib.hid fun q W => rsign_ok s q dp bd (by omega) W
  have CSE := Lib.hid fun a b W => rsign_err s a dp 9 b (by decide) W
  have CF := Lib.hid fun a er b x W => sfail_any s a dp er b x 9 W
  have CE := Lib.hid fun q hq W => sesc_any s q dp bd (by omega) hq W
  have CB := Lib.hid fun T b (hT : T.size ≤ 1000000) W => rbytes_any T b hT W
  have hse := SetEq.start (s.data.toList.drop q)
  have hsg := sg_head s q 94
  have hnle : s.size - q + 1 ≤ s.size := by omega
  rw [rq_len] at hse
  obtain ⟨nt, hnt⟩ : ∃ nt, decide ((s.data.toList.drop q).head? = some 94) = nt := ⟨_, rfl⟩
  obtain ⟨q0, hq0, hq0l, hq0e⟩ : ∃ q0 : Nat, (q : Int) + (if nt then 1 else 0) = (q0 : Int) ∧ q0 ≤ s.size ∧ 1 ≤ q0 ∧ SetEq (s.size - q + 1) nt (setR withW notW orW (s.data.toList.drop q)) 0 [] (s.data.toList.drop q0) := by
    rw [hnt] at hse
    by_cases h : (s.data.toList.drop q).head? = some 94
    · have hn : nt = true := by rw [← hnt]; exact decide_eq_true h
      subst hn
      have hlt : q < s.size := by
        rcases Nat.lt_or_ge q s.size with h2 | h2
        · exact h2
        · rw [rq_nil s q (by omega)] at h; cases h
      refine ⟨q + 1, by simp, hlt, by omega, ?_⟩
      rw [if_pos h, List.drop_drop] at hse
      exact hse
    · have hn : nt = false := by rw [← hnt]; exact decide_eq_false h
      subst hn
      refine ⟨q, by simp, hq, hq1, ?_⟩
      rw [if_neg h] at hse
      exact hse
  rw [hnt] at hsg
  obtain ⟨hq01, hq0e⟩ := hq0e
  obtain ⟨X, hX⟩ : ∃ X, setR withW notW orW (s.data.toList.drop q) = X := ⟨_, rfl⟩
  rw [hX] at hq0e ⊢
  obtain ⟨n, hn⟩ : ∃ n, s.size - q + 1 = n := ⟨_, rfl⟩
  rw [hn] at hq0e hnle
  have hfrom : (q : Int) - 1 = ((s.size - n : Nat) : Int) := by omega
  obtain ⟨sz, hsz⟩ : ∃ sz, sgZ s q = sz := ⟨_, rfl⟩
  have CS0 := Lib.hid fun W => rsign_ok s q dp bd (by omega) W
  rw [hsz] at CS0 hsg
  rw [show (((94 : UInt8).toNat : Nat) : Int) = 94 from rfl] at hsg
  have HQE := Lib.hid hq0e
  have H0 := Lib.hid (Rs2.start w s (q : Int) dp 0 bd 58)
  clear hse hnt hX hn hsz hq0e
  unfold rsv at CS CSE CF CE CS0 ⊢
  obtain ⟨i0, hi, hz0, hz1, hz2⟩ := info_parts Tryd.infoB
  go_enter Tryd.func67, Tryd.ntmps67
  go_wp2_with fail
  generalize hW : (w.alloc (.cells #[.string s, .int .i64 (q : Int), .int .i64 dp, .int .i64 0, .int .i64 bd] 58)).alloc (.cells #[.string ⟨#[]⟩, .int .i64 0, .int .i64 0, .int .i64 0, .int .i64 0] 58) = w1 at *
  refine (CS0.out _).mono ?_
  rintro e w2 ⟨rfl, hb2⟩
  have H2 := Lib.hid (H0.out.keep hb2)
  clear hb2 H0 hW CS0
  obtain ⟨c0, c1, c2, c3, c4, f0, f1, f2, f3, f4⟩ := H2.out.own
  go_upto_if 22 with fail
  go_cut [5] (fun v5 wx => v5 = .bool nt ∧ Hid (Rs2 w w.heap.size (w.heap.size + 1) s (q0 : Int) dp 0 bd wx))
  case first =>
    cases nt with
    | true =>
      have HS := H2.out.set1 ((q : Int) + 1)
      have hqq : (q : Int) + 1 = (q0 : Int) := by simpa using hq0
      rw [hqq] at HS
      have HS := Lib.hid HS
      clear hsg hq0
      go_wp2_with fail
      go_meet
      exact ⟨rfl, HS⟩
    | false =>
      have hqq : q = q0 := by have : (q : Int) = (q0 : Int) := (by simpa using hq0); omega
      subst hqq
      clear hsg hq0
      go_wp2_with fail
      go_meet
      exact ⟨rfl, H2⟩
  case rest =>
  obtain ⟨rfl, H3⟩ := hcut
  clear H2 c0 c1 c2 c3 c4 f0 f1 f2 f3 f4 hsg hq0
  have HS0 : Hid (SeSt s bd n nt X 0 (q0 : Int) 0 bd []) := Lib.hid (.inl ⟨rfl, rfl, q0, rfl, hq01, hq0l, HQE.out⟩)
  have HR0 : Hid (SeR w s dp bd n nt X 0 (q0 : Int) 0 bd [] (.slice (some ⟨wc.heap.size, 0, none⟩) 0 0) (wc.alloc (.cells #[] 5))) := Lib.hid ⟨H3.out.keep ((Below.refl _ _).alloc (Nat.le_refl _) _), World.ownsRow_lit wc #[] 0 (by have := H3.out.res.lt; omega) (by decide) rfl⟩
  go_wp2_with fail
  go_loopw [6, 7] (fun hv iv wr => ∃ (i m g c : Nat) (a er b' : Int) (has : List UInt8), i ≤ s.size ∧ m ≤ 256 * i ∧ 0 ≤ a ∧ a ≤ (s.size : Int) + 3 ∧ hv = .slice (some ⟨g, 0, none⟩) m c ∧ iv = .int .i64 (i : Int) ∧ Hid (m = has.length) ∧ Hid (SeSt s bd n nt X i a er b' has) ∧ Hid (SeR w s dp bd n nt X i a er b' has (.slice (some ⟨g, 0, none⟩) m c) wr)) (fun _ iv _ => s.size + 1 - (intOf iv).toNat)
  case atStart => exact ⟨0, 0, wc.heap.size, 0, (q0 : Int), 0, bd, [], Nat.zero_le _, by omega, by omega, by omega, rfl, rfl, Lib.hid rfl, HS0, HR0⟩
  case round =>
    obtain ⟨i, m, g, c, a, er, b', has, hi', hm, ha0, ha1, rfl, rfl, HM, HST, HR⟩ := hrel
    clear HS0 HR0 H3 HQE
    have hile : (i : Int) ≤ (s.size : Int) := by omega
    rcases HST.out with ⟨rfl, rfl, p, rfl, hip, hps, HE⟩ | ⟨rfl, n0, hX, hn0, rfl⟩
    · have HE := Lib.hid HE
      have hrow := HR.out.row
      rw [← HM.out] at hrow
      have HRow := Lib.hid hrow
      have HRs := Lib.hid HR.out.rs
      clear hrow HR HST
      obtain ⟨c0, c1, c2, c3, c4, f0, f1, f2, f3, f4⟩ := HRs.out.own
      have CS1 := Lib.hid fun W => CS.out p W
      by_cases hlt : p < s.size
      · obtain ⟨x, hx⟩ : ∃ x, s[p] = x := ⟨_, rfl⟩
        have hsgx : sgZ s p = (x.toNat : Int) := by unfold sgZ; rw [dif_pos hlt, hx]
        rw [hsgx] at CS1
        have hxl := x.toNat_lt
        have HX0 := Lib.hid (show s.data.toList.drop p = x :: s.data.toList.drop (p + 1) by rw [rq_drop s p hlt, hx])
        have HNX := Lib.hid (nextR_at s p hlt)
        rw [hx] at HNX
        have hp1 : (p : Int) + 1 ≤ (s.size : Int) := by omega
        clear hx hsgx
        go_wp2_with fail
        refine (CS1.out _).mono ?_
        rintro e w3 ⟨rfl, hb3⟩
        have H3 := Lib.hid (HRs.out.keep hb3)
        have HRow3 := Lib.hid (rg_own_kept HRow.out (fun g hg => hb3.block g (rg_own_base HRow.out g hg).2))
        clear hb3 HRs HRow c0 c1 c2 c3 c4 f0 f1 f2 f3 f4 CS1
        obtain ⟨c0, c1, c2, c3, c4, f0, f1, f2, f3, f4⟩ := H3.out.own
        have H4 := Lib.hid (H3.out.set1 ((p : Int) + 1))
        have HRow4 : Hid ((w3.setCell ⟨w.heap.size, 1, none⟩ (.int .i64 ((p : Int) + 1))).ownsRow (w.heap.size + 2) 5 1 (.slice (some ⟨g, 0, none⟩) m c) m (Lib.byteCells has)) := Lib.hid (rg_own_kept HRow3.out (fun g hg => Below.heap_setCell _ _ _ _ (by have := (rg_own_base HRow3.out g hg).1; show g ≠ w.heap.size; omega)))
        go_upto_region 13 with fail
        generalize hw4 : w3.setCell ⟨w.heap.size, 1, none⟩ (.int .i64 ((p : Int) + 1)) = w4 at *
        clear hw4 H3 HRow3 c0 c1 c2 c3 c4 f0 f1 f2 f3 f4
        obtain ⟨stop, hstop⟩ : ∃ stop : Bool, stop = true ∧ x = 93 ∧ 0 < i ∨ stop = false ∧ x = 93 ∧ i = 0 ∨ stop = false ∧ x ≠ 93 := by
          by_cases h1 : x = 93
          · by_cases h2 : i = 0
            · exact ⟨false, .inr (.inl ⟨rfl, h1, h2⟩)⟩
            · exact ⟨true, .inl ⟨rfl, h1, by omega⟩⟩
          · exact ⟨false, .inr (.inr ⟨rfl, h1⟩)⟩
        go_cut [51] (fun v wx => v = .bool stop ∧ wx = w4)
        case first =>
          rcases hstop with ⟨rfl, rfl, h2⟩ | ⟨rfl, rfl, rfl⟩ | ⟨rfl, h1⟩
          · go_wp2_with fail
            go_meet
            exact ⟨rfl, rfl⟩
          · go_wp2_with fail
            go_meet
            exact ⟨rfl, rfl⟩
          · have h93 : ((x.toNat : Int) == 93) = false := by rw [beq_eq_false_iff_ne]; intro h; exact h1 (by apply UInt8.toNat_inj.1; show x.toNat = 93; omega)
            clear h1
            go_wp2_with fail
            go_meet
            exact ⟨rfl, rfl⟩
        case rest =>
        obtain ⟨rfl, rfl⟩ := hcut
        rcases hstop with ⟨rfl, rfl, h2⟩ | hgo
        · have HX2 := HE.out
          rw [HX0.out] at HX2
          obtain ⟨S, hX, hS⟩ := HX2.close (by omega)
          have HX := Lib.hid hX
          have HSS := Lib.hid hS
          clear HX2 hX hS HE HX0 HNX
          obtain ⟨T, hT⟩ : ∃ T : ByteArray, T.data.toList = bytesN has nt 256 := ⟨⟨(bytesN has nt 256).toArray⟩, by simp⟩
          have hTe : (⟨(bytesN has nt 256).toArray⟩ : ByteArray) = T := WideShapes.bytes_inj (by rw [hT])
          have CB2 := Lib.hid fun W => CB.out ⟨has.toArray⟩ nt (by have := HM.out; show has.toArray.size ≤ _; simp; omega) W
          rw [show (⟨has.toArray⟩ : ByteArray).data.toList = has from by simp, hTe] at CB2
          have HTT := Lib.hid hT
          clear hT hTe
          have hcv := rq_conv HM.out HRow4.out
          have hcvd : (convert 130 9 (.slice (some ⟨g, 0, none⟩) m c)).run Tryd.prog wc.drew = .ok (.string ⟨has.toArray⟩) wc.drew := rq_conv HM.out (show wc.drew.ownsRow _ _ _ _ _ _ from HRow4.out)
          obtain ⟨c0, c1, c2, c3, c4, f0, f1, f2, f3, f4⟩ := H4.out.own
          obtain ⟨r0, r1, r2, r3, r4, g0, g1, g2, g3, g4⟩ := H4.out.res
          go_upto_region 33 with fail
          go_region_with (refine (CB2.out _).mono ?_; rintro e w5 ⟨rfl, hb5⟩; have H5 := H4.out.drew.keep hb5; obtain ⟨d0, d1, d2, d3, d4, -⟩ := H5.own; obtain ⟨s0, s1, s2, s3, s4, t0, t1, t2, t3, t4⟩ := H5.res)
          all_goals
            have H6 := Lib.hid (H5.last s ((p : Int) + 1) dp 0 b')
            clear H5 hb5 d0 d1 d2 d3 d4 s0 s1 s2 s3 s4 t0 t1 t2 t3 t4
            simp only [Act.put, List.getElem_toArray, List.getElem_cons_succ, List.getElem_cons_zero]
            go_wp2_with fail
            refine bodyPost_ret (v := .tuple #[rsv s ((p : Int) + 1) dp 0 b', .string T]) ?_ rfl ⟨⟨(p : Int) + 1, 0, _, _, rfl, by omega, by omega, .inl ⟨_, _, HX.out, List.drop_suffix _ _, by rw [rq_len]; omega, rfl, rfl, set_text HSS.out has (fun c _ => rfl) nt T HTT.out⟩⟩, H6.out.2⟩
            exact set_results _ _ _ _ _ _ _ _ _ H6.out.1 rfl rfl
        · have hns : stop = false := by rcases hgo with ⟨h, _⟩ | ⟨h, _⟩ <;> exact h
          have hx93 : x ≠ 93 ∨ i = 0 := by rcases hgo with ⟨_, _, h⟩ | ⟨_, h⟩; exact .inr h; exact .inl h
          subst hns
          have HX93 := Lib.hid hx93
          clear hgo hx93
          go_upto_if 55 with fail
          go_cut [9] (fun v9 wx => ∃ (lo : UInt8) (a1 e1 b1 : Int), v9 = .int .u8 (lo.toNat : Int) ∧ 0 ≤ a1 ∧ a1 ≤ (s.size : Int) + 2 ∧ Hid ((e1 = 0 ∧ b1 = b' ∧ ∃ p1 : Nat, a1 = (p1 : Int) ∧ p + 1 ≤ p1 ∧ p1 ≤ s.size ∧ nextR (s.data.toList.drop p) = .ok (lo, s.data.toList.drop p1)) ∨ (e1 = 9 ∧ b1 = (p : Int) ∧ nextR (s.data.toList.drop p) = .error (s.size - p, 9))) ∧ Hid (Rs2 w w.heap.size (w.heap.size + 1) s a1 dp e1 b1 wx) ∧ Hid (wx.ownsRow (w.heap.size + 2) 5 1 (.slice (some ⟨g, 0, none⟩) m c) m (Lib.byteCells has)))
          case first =>
            by_cases h92 : x = 92
            · have h92b : ((x.toNat : Int) == 92) = true := by rw [h92]; rfl
              have HNY := HNX.out
              rw [if_pos h92] at HNY
              have CE1 : Hid (∀ W, Calls Tryd.prog 69 #[rsv s (((p + 1 : Nat)) : Int) dp 0 b'] W (EsPost s (p + 1) dp b' W)) := Lib.hid fun W => CE.out (p + 1) hlt W
              unfold EsPost rsv at CE1
              rw [show (((p + 1 : Nat)) : Int) = (p : Int) + 1 by omega] at CE1
              obtain ⟨o, ho⟩ : ∃ o, escO s (p + 1) = o := ⟨_, rfl⟩
              rw [ho] at CE1 HNY
              have HO := Lib.hid ho
              have HNY := Lib.hid HNY
              obtain ⟨c0, c1, c2, c3, c4, f0, f1, f2, f3, f4⟩ := H4.out.own
              clear h92 ho
              rw [show (p : Int) + 1 + 1 = (p : Int) + 2 by omega, show (p : Int) + 1 - 1 = (p : Int) by omega] at CE1
              cases o with
              | none =>
                go_wp2_with fail
                refine (CE1.out _).mono ?_
                rintro e w5 ⟨rfl, hb5⟩
                have H5 := Lib.hid (H4.out.keep hb5)
                have HRow5 := Lib.hid (rg_own_kept HRow4.out (fun g hg => hb5.block g (rg_own_base HRow4.out g hg).2))
                clear hb5 H4 HRow4 c0 c1 c2 c3 c4 f0 f1 f2 f3 f4 CE1
                have HB := Lib.hid (esc_back H5.out HRow5.out (.cells #[.string s, .int .i64 ((p : Int) + 2), .int .i64 dp, .int .i64 9, .int .i64 (p : Int)] 58) ((p : Int) + 2) dp 9 (p : Int))
                obtain ⟨c0, c1, c2, c3, c4, f0, f1, f2, f3, f4⟩ := H5.out.own
                have hlt5 := H5.out.own.lt
                go_wp2_with fail
                go_meet
                exact ⟨(0 : UInt8), (p : Int) + 2, 9, (p : Int), rfl, by omega, by omega, Lib.hid (.inr ⟨rfl, rfl, HNY.out⟩), Lib.hid HB.out.1, Lib.hid HB.out.2⟩
              | some y =>
                go_wp2_with fail
                refine (CE1.out _).mono ?_
                rintro e w5 ⟨rfl, hb5⟩
                have H5 := Lib.hid (H4.out.keep hb5)
                have HRow5 := Lib.hid (rg_own_kept HRow4.out (fun g hg => hb5.block g (rg_own_base HRow4.out g hg).2))
                clear hb5 H4 HRow4 c0 c1 c2 c3 c4 f0 f1 f2 f3 f4 CE1
                have HB := Lib.hid (esc_back H5.out HRow5.out (.cells #[.string s, .int .i64 ((p : Int) + 2), .int .i64 dp, .int .i64 0, .int .i64 b'] 58) ((p : Int) + 2) dp 0 b')
                obtain ⟨c0, c1, c2, c3, c4, f0, f1, f2, f3, f4⟩ := H5.out.own
                have hlt5 := H5.out.own.lt
                go_wp2_with fail
                go_meet
                exact ⟨y, (p : Int) + 2, 0, b', rfl, by omega, by omega, Lib.hid (.inl ⟨rfl, rfl, p + 2, by omega, by omega, esc_lt HO.out, HNY.out⟩), Lib.hid HB.out.1, Lib.hid HB.out.2⟩
            · have h92b : ((x.toNat : Int) == 92) = false := by rw [beq_eq_false_iff_ne]; intro h; exact h92 (by apply UInt8.toNat_inj.1; show x.toNat = 92; omega)
              have HNY := HNX.out
              rw [if_neg h92] at HNY
              have HNY := Lib.hid HNY
              clear h92
              go_wp2_with fail
              go_meet
              exact ⟨x, (p : Int) + 1, 0, b', rfl, by omega, by omega, Lib.hid (.inl ⟨rfl, rfl, p + 1, by omega, by omega, by omega, HNY.out⟩), H4, HRow4⟩
          case rest =>
          obtain ⟨lo, a1, e1, b1, rfl, ha1, ha2, HL, H5, HRow5⟩ := hcut
          clear H4 HRow4 HNX
          obtain ⟨dsh, hdsh⟩ : ∃ dsh : Bool, (e1 = 9 ∧ dsh = false) ∨ (e1 = 0 ∧ b1 = b' ∧ ∃ p1 : Nat, a1 = (p1 : Int) ∧ p1 ≤ s.size ∧ dashAt s p1 = dsh) := by
            rcases HL.out with ⟨h1, h2, p1, h3, _, h4, _⟩ | ⟨h, _⟩
            · exact ⟨dashAt s p1, .inr ⟨h1, h2, p1, h3, h4, rfl⟩⟩
            · exact ⟨false, .inl ⟨h, rfl⟩⟩
          obtain ⟨c0, c1, c2, c3, c4, f0, f1, f2, f3, f4⟩ := H5.out.own
          go_upto_region 20 with fail
          go_cut [92] (fun v wx => v = .bool dsh ∧ wx = wc)
          case first =>
            rcases hdsh with ⟨rfl, rfl⟩ | ⟨rfl, rfl, p1, rfl, hp1s, hdd⟩
            · go_wp2_with fail
              go_meet
              exact ⟨rfl, rfl⟩
            · unfold dashAt at hdd
              by_cases hl1 : p1 + 1 < s.size
              · rw [dif_pos hl1] at hdd
                have hl1i : (p1 : Int) + 1 < (s.size : Int) := by omega
                have hl2 : p1 < s.size := by omega
                have e45 : (s[p1] == 45) = ((s[p1].toNat : Int) == 45) := (u8_beq2 s[p1] 45).symm
                have e93 : (s[p1 + 1] != 93) = ((s[p1 + 1].toNat : Int) != 93) := by unfold bne; rw [← u8_beq2]; rfl
                rw [e45, e93] at hdd
                have hx1 := s[p1].toNat_lt
                have hx2 := s[p1 + 1].toNat_lt
                clear e45 e93
                obtain ⟨b45, h45⟩ : ∃ b, ((s[p1].toNat : Int) == 45) = b := ⟨_, rfl⟩
                obtain ⟨b93, h93⟩ : ∃ b, ((s[p1 + 1].toNat : Int) != 93) = b := ⟨_, rfl⟩
                rw [h45, h93] at hdd
                cases b45 <;> cases b93
                all_goals
                  obtain rfl := hdd
                  go_wp2_with fail
                  go_meet
                  exact ⟨rfl, rfl⟩
              · rw [dif_neg hl1] at hdd
                obtain rfl := hdd
                have hl1i : ¬ (p1 : Int) + 1 < (s.size : Int) := by omega
                go_wp2_with fail
                go_meet
                exact ⟨rfl, rfl⟩
          case rest =>
          obtain ⟨rfl, rfl⟩ := hcut
          clear c0 c1 c2 c3 c4 f0 f1 f2 f3 f4
          go_upto_if 92 with fail
          go_cut [12] (fun v12 wx => ∃ (hi : UInt8) (a2 e2 b2 : Int), v12 = .int .u8 (hi.toNat : Int) ∧ 0 ≤ a2 ∧ a2 ≤ (s.size : Int) + 3 ∧ Hid (HiF s b' n X p lo hi a2 e2 b2) ∧ Hid (Rs2 w w.heap.size (w.heap.size + 1) s a2 dp e2 b2 wx) ∧ Hid (wx.ownsRow (w.heap.size + 2) 5 1 (.slice (some ⟨g, 0, none⟩) m c) m (Lib.byteCells has)))
          case first =>
            cases dsh with
            | false =>
              have HQ : Hid (HiF s b' n X p lo lo a1 e1 b1) := Lib.hid (by
                rcases HL.out with ⟨h1, h2, p1, h3, h4, h5, h6⟩ | ⟨h1, h2, h3⟩
                · refine .inl ⟨h1, h2, p1, h3, h4, h5, span_one hlt h6 ?_⟩
                  rcases hdsh with ⟨h7, _⟩ | ⟨_, _, p1', h7, _, h8⟩
                  · rw [h1] at h7; cases h7
                  · have : p1 = p1' := by omega
                    rw [this]; exact h8
                · refine .inr ⟨h1, s.size - p, ?_, by omega, by rw [h2]; omega⟩
                  have h4 := span_bad1 (n := n) hlt h3
                  rw [HX0.out] at h4
                  have h5 := HE.out
                  rw [HX0.out] at h5
                  exact h5.bad HX93.out h4)
              go_wp2_with fail
              go_meet
              exact ⟨lo, a1, e1, b1, rfl, ha1, by omega, HQ, H5, HRow5⟩
            | true =>
              obtain ⟨rfl, rfl, p1, rfl, hp1s, hdd⟩ : e1 = 0 ∧ b1 = b' ∧ ∃ p1 : Nat, a1 = (p1 : Int) ∧ p1 ≤ s.size ∧ dashAt s p1 = true := by
                rcases hdsh with ⟨_, h⟩ | h
                · cases h
                · exact h
              have hl1 : p1 + 1 < s.size := by
                rcases Nat.lt_or_ge (p1 + 1) s.size with h | h
                · exact h
                · unfold dashAt at hdd; rw [dif_neg (by omega)] at hdd; cases hdd
              obtain ⟨hpp, hnx1⟩ : p + 1 ≤ p1 ∧ nextR (s.data.toList.drop p) = .ok (lo, s.data.toList.drop p1) := by
                rcases HL.out with ⟨_, _, p1', h3, h4, h5, h6⟩ | ⟨h, _⟩
                · have : p1' = p1 := by omega
                  rw [this] at h4 h6; exact ⟨h4, h6⟩
                · cases h
              have HD2 := Lib.hid (And.intro hdd hnx1)
              have HNZ := Lib.hid (nextR_at s (p1 + 1) hl1)
              obtain ⟨y, hy⟩ : ∃ y, s[p1 + 1] = y := ⟨_, rfl⟩
              rw [hy] at HNZ
              have hyi : (s[p1 + 1].toNat : Int) = (y.toNat : Int) := by rw [hy]
              have hyl := y.toNat_lt
              have H6 := Lib.hid (H5.out.set1 ((p1 : Int) + 2))
              have HRow6 : Hid ((wc.setCell ⟨w.heap.size, 1, none⟩ (.int .i64 ((p1 : Int) + 2))).ownsRow (w.heap.size + 2) 5 1 (.slice (some ⟨g, 0, none⟩) m c) m (Lib.byteCells has)) := Lib.hid (rg_own_kept HRow5.out (fun g hg => Below.heap_setCell _ _ _ _ (by have := (rg_own_base HRow5.out g hg).1; show g ≠ w.heap.size; omega)))
              have hl1i : (p1 : Int) + 2 ≤ (s.size : Int) := by omega
              obtain ⟨c0, c1, c2, c3, c4, f0, f1, f2, f3, f4⟩ := H5.out.own
              clear hdsh HL hdd hnx1 hy
              go_upto_if 104 with fail
              generalize hw6 : wc.setCell ⟨w.heap.size, 1, none⟩ (.int .i64 ((p1 : Int) + 2)) = w6 at *
              clear hw6 H5 HRow5 c0 c1 c2 c3 c4 f0 f1 f2 f3 f4
              go_cut [12] (fun v12 wx => ∃ (hi : UInt8) (a2 e2 b2 : Int), v12 = .int .u8 (hi.toNat : Int) ∧ 0 ≤ a2 ∧ a2 ≤ (s.size : Int) + 3 ∧ Hid (HiSt s b1 n X p lo hi a2 e2 b2) ∧ Hid (Rs2 w w.heap.size (w.heap.size + 1) s a2 dp e2 b2 wx) ∧ Hid (wx.ownsRow (w.heap.size + 2) 5 1 (.slice (some ⟨g, 0, none⟩) m c) m (Lib.byteCells has)))
              case first =>
                obtain ⟨c0, c1, c2, c3, c4, f0, f1, f2, f3, f4⟩ := H6.out.own
                by_cases h92 : y = 92
                · have h92b : ((y.toNat : Int) == 92) = true := by rw [h92]; rfl
                  have HNY := HNZ.out
                  rw [if_pos h92] at HNY
                  have CE1 : Hid (∀ W, Calls Tryd.prog 69 #[rsv s (((p1 + 2 : Nat)) : Int) dp 0 b1] W (EsPost s (p1 + 2) dp b1 W)) := Lib.hid fun W => CE.out (p1 + 2) (by omega) W
                  unfold EsPost rsv at CE1
                  rw [show (((p1 + 2 : Nat)) : Int) = (p1 : Int) + 2 by omega, show (p1 : Int) + 2 + 1 = (p1 : Int) + 3 by omega, show (p1 : Int) + 2 - 1 = (p1 : Int) + 1 by omega] at CE1
                  obtain ⟨o, ho⟩ : ∃ o, escO s (p1 + 2) = o := ⟨_, rfl⟩
                  rw [show p1 + 1 + 1 = p1 + 2 from rfl, ho] at HNY
                  rw [ho] at CE1
                  have HO := Lib.hid ho
                  have HNY := Lib.hid HNY
                  clear h92 ho
                  cases o with
                  | none =>
                    have HQ : Hid (HiSt s b1 n X p lo 0 ((p1 : Int) + 3) 9 ((p1 : Int) + 1)) := Lib.hid (.inr ⟨rfl, s.size - (p1 + 1), by
                      have h4 := span_bad2 (n := n) hlt HD2.out.2 HD2.out.1 HNY.out
                      rw [HX0.out] at h4
                      have h5 := HE.out
                      rw [HX0.out] at h5
                      exact h5.bad HX93.out h4, by omega, by omega⟩)
                    go_wp2_with fail
                    refine (CE1.out _).mono ?_
                    rintro e w5 ⟨rfl, hb5⟩
                    have H7 := Lib.hid (H6.out.keep hb5)
                    have HRow7 := Lib.hid (rg_own_kept HRow6.out (fun g hg => hb5.block g (rg_own_base HRow6.out g hg).2))
                    clear hb5 H6 HRow6 c0 c1 c2 c3 c4 f0 f1 f2 f3 f4 CE1
                    have HB := Lib.hid (esc_back H7.out HRow7.out (.cells #[.string s, .int .i64 ((p1 : Int) + 3), .int .i64 dp, .int .i64 9, .int .i64 ((p1 : Int) + 1)] 58) ((p1 : Int) + 3) dp 9 ((p1 : Int) + 1))
                    obtain ⟨c0, c1, c2, c3, c4, f0, f1, f2, f3, f4⟩ := H7.out.own
                    have hlt5 := H7.out.own.lt
                    go_wp2_with fail
                    go_meet
                    exact ⟨(0 : UInt8), (p1 : Int) + 3, 9, ((p1 : Int) + 1), rfl, by omega, by omega, HQ, Lib.hid HB.out.1, Lib.hid HB.out.2⟩
                  | some z =>
                    have HQ : Hid (HiSt s b1 n X p lo z ((p1 : Int) + 3) 0 b1) := Lib.hid (.inl ⟨rfl, rfl, p1 + 3, by omega, by omega, by have := esc_lt (p := p1 + 1) HO.out; omega, span_two hlt HD2.out.2 HD2.out.1 HNY.out⟩)
                    go_wp2_with fail
                    refine (CE1.out _).mono ?_
                    rintro e w5 ⟨rfl, hb5⟩
                    have H7 := Lib.hid (H6.out.keep hb5)
                    have HRow7 := Lib.hid (rg_own_kept HRow6.out (fun g hg => hb5.block g (rg_own_base HRow6.out g hg).2))
                    clear hb5 H6 HRow6 c0 c1 c2 c3 c4 f0 f1 f2 f3 f4 CE1
                    have HB := Lib.hid (esc_back H7.out HRow7.out (.cells #[.string s, .int .i64 ((p1 : Int) + 3), .int .i64 dp, .int .i64 0, .int .i64 b1] 58) ((p1 : Int) + 3) dp 0 b1)
                    obtain ⟨c0, c1, c2, c3, c4, f0, f1, f2, f3, f4⟩ := H7.out.own
                    have hlt5 := H7.out.own.lt
                    go_wp2_with fail
                    go_meet
                    exact ⟨z, (p1 : Int) + 3, 0, b1, rfl, by omega, by omega, HQ, Lib.hid HB.out.1, Lib.hid HB.out.2⟩
                · have h92b : ((y.toNat : Int) == 92) = false := by rw [beq_eq_false_iff_ne]; intro h; exact h92 (by apply UInt8.toNat_inj.1; show y.toNat = 92; omega)
                  have HNY := HNZ.out
                  rw [if_neg h92] at HNY
                  have HQ : Hid (HiSt s b1 n X p lo y ((p1 : Int) + 2) 0 b1) := Lib.hid (.inl ⟨rfl, rfl, p1 + 2, by omega, by omega, by omega, span_two hlt HD2.out.2 HD2.out.1 HNY⟩)
                  clear h92 HNY
                  go_wp2_with fail
                  go_meet
                  exact ⟨y, (p1 : Int) + 2, 0, b1, rfl, by omega, by omega, HQ, H6, HRow6⟩
              case rest =>
                obtain ⟨hb, a2, e2, b2, rfl, hb1', hb2', HQ, H7, HRow7⟩ := hcut
                clear H6 HRow6
                obtain ⟨c0, c1, c2, c3, c4, f0, f1, f2, f3, f4⟩ := H7.out.own
                by_cases hlh : hb < lo
                · have hlhi : (hb.toNat : Int) < (lo.toNat : Int) := by rw [UInt8.lt_iff_toNat_lt] at hlh; omega
                  obtain ⟨e3, b3, hF, HQ2⟩ : ∃ e3 b3, Hid (∀ W, Calls Tryd.prog 56 #[rsv s a2 dp e2 b2, .int .i64 ((s.size - n : Nat) : Int), .int .i64 9] W fun r w' => r = .returned (rsv s a2 dp e3 b3) ∧ Below W.heap.size W w') ∧ Hid (HiF s b1 n X p lo hb a2 e3 b3) := by
                    rcases HQ.out with ⟨h1, h2, p2, h3, h4, h5, h6⟩ | ⟨h1, n0, h2, h3, h4⟩
                    · rw [if_pos hlh] at h6
                      refine ⟨9, ((s.size - n : Nat) : Int), Lib.hid fun W => ?_, Lib.hid (.inr ⟨rfl, n, ?_, hnle, rfl⟩)⟩
                      · have h := sfail_any s a2 dp e2 b2 ((s.size - n : Nat) : Int) 9 W
                        rw [if_pos h1, if_pos h1] at h
                        exact h
                      · rw [HX0.out] at h6
                        have h5 := HE.out
                        rw [HX0.out] at h5
                        exact h5.bad HX93.out h6
                    · refine ⟨e2, b2, Lib.hid fun W => ?_, Lib.hid (.inr ⟨h1, n0, h2, h3, h4⟩)⟩
                      have h := sfail_any s a2 dp e2 b2 ((s.size - n : Nat) : Int) 9 W
                      rw [if_neg (by rw [h1]; decide), if_neg (by rw [h1]; decide)] at h
                      exact h
                  unfold rsv at hF
                  clear hlh
                  go_wp2_with fail
                  refine (hF.out _).mono ?_
                  rintro e w8 ⟨rfl, hb8⟩
                  have H8 := Lib.hid (H7.out.keep hb8)
                  have HRow8 := Lib.hid (rg_own_kept HRow7.out (fun g hg => hb8.block g (rg_own_base HRow7.out g hg).2))
                  clear hb8 H7 HRow7 c0 c1 c2 c3 c4 f0 f1 f2 f3 f4 hF
                  have H9 := Lib.hid (H8.out.put s a2 dp e3 b3)
                  have HRow9 := Lib.hid (rg_own_kept (w' := putS w8 w.heap.size s a2 dp e3 b3) HRow8.out (fun g hg => putS_block (by have := (rg_own_base HRow8.out g hg).1; omega) _ _ _ _ _))
                  obtain ⟨c0, c1, c2, c3, c4, f0, f1, f2, f3, f4⟩ := H8.out.own
                  go_wp2_with fail
                  go_meet
                  exact ⟨hb, a2, e3, b3, rfl, hb1', hb2', HQ2, H9, HRow9⟩
                · have hlhi : ¬ (hb.toNat : Int) < (lo.toNat : Int) := by rw [UInt8.lt_iff_toNat_lt] at hlh; omega
                  have HQ2 : Hid (HiF s b1 n X p lo hb a2 e2 b2) := Lib.hid (by
                    rcases HQ.out with ⟨h1, h2, p2, h3, h4, h5, h6⟩ | h
                    · rw [if_neg hlh] at h6
                      exact .inl ⟨h1, h2, p2, h3, h4, h5, h6⟩
                    · exact .inr h)
                  clear hlh
                  go_wp2_with fail
                  go_meet
                  exact ⟨hb, a2, e2, b2, rfl, hb1', hb2', HQ2, H7, HRow7⟩
          case rest =>
          obtain ⟨hb, a2, e2, b2, rfl, hb1', hb2', HQ, H7, HRow7⟩ := hcut
          clear H5 HRow5 HL hdsh
          have hlol := lo.toNat_lt
          have hhil := hb.toNat_lt
          obtain ⟨K, hK⟩ : ∃ K, hb.toNat + 1 - lo.toNat = K := ⟨_, rfl⟩
          have hKb : K ≤ 256 := by omega
          have HST2 : Hid (SeSt s b' n nt X (i + 1) a2 e2 b2 (has ++ rngL lo.toNat K)) := Lib.hid (by
            rcases HQ.out with ⟨h1, h2, p2, h3, h4, h5, h6⟩ | ⟨h1, n0, h2, h3, h4⟩
            · refine .inl ⟨h1, h2, p2, h3, by omega, h5, ?_⟩
              rw [HX0.out] at h6
              have h7 := HE.out
              rw [HX0.out] at h7
              rw [← hK]
              exact h7.more HX93.out h6 (by rw [rq_len, rq_len]; omega)
            · exact .inr ⟨h1, n0, h2, h3, h4⟩)
          have hKi : ∀ k : Nat, k ≤ K → (((lo.toNat + k : Nat) : Int) ≤ (hb.toNat : Int) ↔ k < K) := fun k hk => by omega
          have HKI := Lib.hid hKi
          clear HQ hKi
          have HKK := Lib.hid hK
          clear hK
          go_wp2_with fail
          go_loopw [6, 15] (fun hv kv wx => ∃ (k g2 c2 : Nat), k ≤ K ∧ hv = .slice (some ⟨g2, 0, none⟩) (m + k) c2 ∧ kv = .int .i64 ((lo.toNat + k : Nat) : Int) ∧ Hid (Rs2 w w.heap.size (w.heap.size + 1) s a2 dp e2 b2 wx) ∧ Hid (wx.ownsRow (w.heap.size + 2) 5 1 (.slice (some ⟨g2, 0, none⟩) (m + k) c2) (m + k) (Lib.byteCells (has ++ rngL lo.toNat k)))) (fun _ kv _ => lo.toNat + K - (intOf kv).toNat)
          case atStart => exact ⟨0, g, c, Nat.zero_le _, rfl, rfl, H7, Lib.hid (by rw [show rngL lo.toNat 0 = [] from rfl, List.append_nil]; exact HRow7.out)⟩
          case round =>
            obtain ⟨k, g2, c2, hk, rfl, rfl, HK, HRK⟩ := hrel
            clear H7 HRow7
            by_cases hkl : k < K
            · have hki : ((lo.toNat + k : Nat) : Int) ≤ (hb.toNat : Int) := (HKI.out k hk).2 hkl
              have hsm : lo.toNat + k ≤ 255 := by omega
              have hsm0 : 0 ≤ ((lo.toNat + k : Nat) : Int) := by omega
              have hkn : ((UInt8.ofNat (lo.toNat + k)).toNat : Int) = ((lo.toNat + k : Nat) : Int) := by rw [UInt8.toNat_ofNat']; omega
              obtain ⟨z, hz⟩ : ∃ z, lo.toNat + k = z := ⟨_, rfl⟩
              rw [hz] at hki hsm hsm0 hkn ⊢
              have hmk : m + k ≤ 100000 := by omega
              go_wp2_with (at_builtin; refine wpList_append_own_at _ rfl (.tmp 126) (.tmp 129) 130 rfl (w.heap.size + 2) 5 i0 (.int .u8 0) 1 1 Tryd.underlying130 hi hz0 hz1 hz2 rfl (by decide) (.slice (some ⟨g2, 0, none⟩) (m + k) c2) (m + k) (Lib.byteCells (has ++ rngL lo.toNat k)) rfl (HRK.out.alloc _) ⟨wr.heap.size, 0, none⟩ 1 1 [.int .u8 (z : Int)] rfl rfl ?p1 ?p2 ?p3 ?p4 ?p5 ?_)
              try (case p1 => exact cell_one_new _ _ _)
              case p2 => simp [Value.oneCell']
              case p3 => unfold maxLen; omega
              case p4 => omega
              case p5 => have := HK.out.res.lt; simp; omega
              intro v2 w9 hown9 hgrow9 _ _
              obtain ⟨g9, c9, rfl, -⟩ := rg_own_succ hown9
              have hne : ∀ j, j < w.heap.size + 2 → w9.heap[j]? = wr.heap[j]? := fun j hj => by
                have hjl : j < wr.heap.size := by have := HK.out.res.lt; omega
                rw [← Below.heap_alloc wr (.cells #[.int .u8 (z : Int)] 5) j hjl]
                refine hgrow9.block j (by simp; omega) (fun e => ?_)
                have := (rg_own_base HRK.out j e.symm).1
                omega
              have HK9 : Hid (Rs2 w w.heap.size (w.heap.size + 1) s a2 dp e2 b2 w9) := Lib.hid (HK.out.kept (hne _ (by omega)) (hne _ (by omega)) ((HK.out.below.alloc HK.out.below.size _).grown hgrow9 (by simp; have := HK.out.below.size; omega) (fun j hj => by have := (rg_own_base HRK.out j hj).1; omega)))
              have HRK9 : Hid (w9.ownsRow (w.heap.size + 2) 5 1 (.slice (some ⟨g9, 0, none⟩) (m + k + 1) c9) (m + k + 1) (Lib.byteCells (has ++ rngL lo.toNat (k + 1)))) := Lib.hid (by
                rw [rngL_snoc, ← List.append_assoc, Lib.byteCells_append]
                have h := hown9
                rw [← hkn, ← hz] at h
                exact h)
              clear hown9 hgrow9 hne HK HRK
              go_wp2_with fail
              go_roundw
              case rel => exact ⟨k + 1, g9, c9, by omega, rfl, by rw [← hz]; go_num, HK9, HRK9⟩
              case measure => simp [intOf]; omega
            · obtain rfl : k = K := by omega
              have hki : ¬ ((lo.toNat + k : Nat) : Int) ≤ (hb.toNat : Int) := fun h => hkl ((HKI.out k hk).1 h)
              have HM2 : Hid (m + k = (has ++ rngL lo.toNat k).length) := Lib.hid (by rw [List.length_append, rngL_len, ← HM.out])
              have HR2 : Hid (SeR w s dp b' n nt X (i + 1) a2 e2 b2 (has ++ rngL lo.toNat k) (.slice (some ⟨g2, 0, none⟩) (m + k) c2) wr) := Lib.hid ⟨HK.out, by rw [← HM2.out]; exact HRK.out⟩
              clear hkl
              go_wp2_with fail
              go_roundw
              case rel => exact ⟨i + 1, m + k, g2, c2, a2, e2, b2, _, by omega, by omega, hb1', hb2', rfl, by go_num, HM2, HST2, HR2⟩
              case measure => simp [intOf]; omega
      · have hsg1 : sgZ s p = -1 := by unfold sgZ; rw [dif_neg hlt]
        rw [hsg1] at CS1
        have HX := HE.out
        rw [rq_nil s p hlt] at HX
        have HX := Lib.hid HX.none
        clear hsg1 HE
        go_wp2_with fail
        refine (CS1.out _).mono ?_
        rintro e w3 ⟨rfl, hb3⟩
        have H3 := Lib.hid (HRs.out.keep hb3)
        clear hb3 HRs HRow c0 c1 c2 c3 c4 f0 f1 f2 f3 f4 CS1
        obtain ⟨c0, c1, c2, c3, c4, f0, f1, f2, f3, f4⟩ := H3.out.own
        go_wp2_with fail
        refine (CF.out _ _ _ _ _).mono ?_
        rw [if_pos rfl, if_pos rfl]
        rintro e w4 ⟨rfl, hb4⟩
        have H4 := Lib.hid (H3.out.keep hb4)
        clear hb4 H3 c0 c1 c2 c3 c4 f0 f1 f2 f3 f4
        obtain ⟨c0, c1, c2, c3, c4, f0, f1, f2, f3, f4⟩ := H4.out.res
        have H5 := Lib.hid (H4.out.last s (p : Int) dp 9 ((s.size - n : Nat) : Int))
        go_wp2_with fail
        refine bodyPost_ret (v := .tuple #[rsv s (p : Int) dp 9 ((s.size - n : Nat) : Int), .string ⟨#[]⟩]) ?_ rfl ⟨⟨(p : Int), 9, _, _, rfl, ha0, ha1, .inr ⟨n, HX.out, hnle, rfl, rfl⟩⟩, H5.out.2⟩
        exact set_results _ _ _ _ _ _ _ _ _ H5.out.1 rfl rfl
    · have HX := Lib.hid hX
      clear hX
      obtain ⟨c0, c1, c2, c3, c4, f0, f1, f2, f3, f4⟩ := HR.out.rs.own
      go_wp2_with fail
      refine (CSE.out _ _ _).mono ?_
      rintro e w3 ⟨rfl, hb3⟩
      have H3 := Lib.hid (HR.out.rs.keep hb3)
      clear hb3 HR c0 c1 c2 c3 c4 f0 f1 f2 f3 f4
      obtain ⟨c0, c1, c2, c3, c4, f0, f1, f2, f3, f4⟩ := H3.out.own
      go_wp2_with fail
      refine (CF.out _ _ _ _ _).mono ?_
      rw [if_neg (by decide), if_neg (by decide)]
      rintro e w4 ⟨rfl, hb4⟩
      have H4 := Lib.hid (H3.out.keep hb4)
      clear hb4 H3 c0 c1 c2 c3 c4 f0 f1 f2 f3 f4
      obtain ⟨c0, c1, c2, c3, c4, f0, f1, f2, f3, f4⟩ := H4.out.res
      have H5 := Lib.hid (H4.out.last s a dp 9 ((s.size - n0 : Nat) : Int))
      go_wp2_with fail
      refine bodyPost_ret (v := .tuple #[rsv s a dp 9 ((s.size - n0 : Nat) : Int), .string ⟨#[]⟩]) ?_ rfl ⟨⟨a, 9, _, _, rfl, ha0, ha1, .inr ⟨n0, HX.out, hn0, rfl, rfl⟩⟩, H5.out.2⟩
      exact set_results _ _ _ _ _ _ _ _ _ H5.out.1 rfl rfl
end Go.Proofs.YtjjejcgpeefclaaDoor
