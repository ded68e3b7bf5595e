/-
  CONTRACT of the document's own reader of parts (scriberef09.cat), the reader of things as a hypothesis: the walk.
-/
import Derived.Test.YtjjejcgpeefclaaDoorMq9
namespace Go.Proofs.YtjjejcgpeefclaaDoor
open Go.RowKit

theorem CtEnd.kept {w : World} {s : ByteArray} {bd : Int} {X : PR RT} {a er1 b1 : Int} {nds : List RNd} {v : Value} {wr w' : World} (h : CtEnd w s bd X a er1 b1 nds v wr) (hk : ∀ g, w.heap.size + 3 ≤ g → g < wr.heap.size → w'.heap[g]? = wr.heap[g]?) : CtEnd w s bd X a er1 b1 nds v w' := by
  rcases h with ⟨r, ts, h1, h2, h3, h4, h5, hT⟩ | h
  · exact .inl ⟨r, ts, h1, h2, h3, h4, h5, TreesM.kept (fun g hg hl => hk g hg.1 hl) (fun g hg _ => hg) ts nds hT⟩
  · exact .inr h
/-- The node that a part, or a pattern, is at its end. -/
theorem ct_last {w wr w' : World} {s : ByteArray} {dp bd : Int} {D : Nat} {X : PR RT} {a er1 b1 : Int} {nds : List RNd} {g m c : Nat} (hm : m = nds.length) (h : CtEnd w s bd X a er1 b1 nds (.slice (some ⟨g, 0, none⟩) m c) wr) (hrow : wr.ownsRow (w.heap.size + 3) 30 3 (.slice (some ⟨g, 0, none⟩) m c) m (rdRow nds)) (ha : 0 ≤ a) (ha2 : a ≤ (s.size : Int) + 4 + D)
    (hk : ∀ g, w.heap.size + 3 ≤ g → w'.heap[g]? = wr.heap[g]?) (hb : Below w.heap.size w w') :
    AxPost s dp bd D X w (.returned (.tuple #[rsv s a dp er1 b1, (gatherM 2 (some ⟨g, 0, none⟩) m c nds).val])) w' := by
  subst hm
  rcases h with ⟨r, ts, rfl, rfl, hX, hr, hae, hT⟩ | ⟨n0, k, hX, hk2, hn, rfl, rfl⟩
  · refine AxPost.mk hX hr hae ?_ hb
    have hrow' : w'.ownsRow 0 30 3 (.slice (some ⟨g, 0, none⟩) nds.length c) nds.length (rdRow nds) := rg_own_less (rg_own_kept hrow (fun k hg => hk k (rg_own_base hrow k hg).1)) (Nat.zero_le _)
    refine gatherM_tree (by decide) hrow' (fun k hg => ?_) (TreesM.kept (fun k hg _ => hk k hg.1) (fun k hg _ => ?_) ts nds hT)
    · have := (rg_own_base hrow k hg).1; omega
    · have := hg.1; omega
  · exact AxPost.no hX hk2 hn ha ha2 rfl hb
/-- Behind a sign: the thing is of what it was. -/
theorem sign_back {w w5 wr w7 : World} {s : ByteArray} {q g : Nat} {dp bd : Int} {nd : RNd} {t : RT} (op : Nat) (hop : op ≠ 1 ∧ op ≤ 8) (hs : Ss w7 w5.heap.size s (q : Int) dp 0 bd) (hn : Rsn w7 (w5.heap.size + 1) nd) (hb : Below w5.heap.size w5 w7) (hT : TreeM wr (fun k => w.heap.size + 3 ≤ k ∧ k ≠ g ∧ k ≠ w5.heap.size ∧ k ≠ w5.heap.size + 1) t nd) (hk : Below wr.heap.size wr w7) (hw : w.heap.size + 3 ≤ w5.heap.size) {wc : World} (hg : g < wc.heap.size) (hwc : wc.heap.size ≤ w5.heap.size) (_hsz : w5.heap.size ≤ w7.heap.size) :
    let W8 := putN (w7.setCell ⟨w5.heap.size, 1, none⟩ (.int .i64 ((q : Int) + 1))) (w5.heap.size + 1) ⟨op, ⟨#[]⟩, some ⟨w7.heap.size, 0, none⟩, 1, 1⟩
    let W9 := W8.alloc (.cells #[.int .i64 nd.op, .string nd.set, .slice nd.kp nd.kn nd.kc] 30)
    Ss W9 w5.heap.size s ((q : Int) + 1) dp 0 bd ∧ Rsn W9 (w5.heap.size + 1) ⟨op, ⟨#[]⟩, some ⟨w7.heap.size, 0, none⟩, 1, 1⟩ ∧ Below w5.heap.size w5 W9 ∧
      TreeM W9 (fun k => w.heap.size + 3 ≤ k ∧ k ≠ g ∧ k ≠ w5.heap.size ∧ k ≠ w5.heap.size + 1) (.mk op W4.zero [t]) ⟨op, ⟨#[]⟩, some ⟨w7.heap.size, 0, none⟩, 1, 1⟩ := by
  intro W8 W9
  have h7l := hs.lt
  have h8l := hn.lt
  have hsz8 : W8.heap.size = w7.heap.size := by show (putN _ _ _).heap.size = _; rw [putN_size]; simp
  have hbk : ∀ k, k ≠ w5.heap.size → k ≠ w5.heap.size + 1 → W8.heap[k]? = w7.heap[k]? := fun k h1 h2 => by
    show (putN _ _ _).heap[k]? = _
    rw [putN_block h2, Below.heap_setCell _ _ _ _ h1]
  have hba : Below W8.heap.size W8 W9 := (Below.refl _ _).alloc (Nat.le_refl _) _
  have hn1 : Rsn (w7.setCell ⟨w5.heap.size, 1, none⟩ (.int .i64 ((q : Int) + 1))) (w5.heap.size + 1) nd := hn.kept (Below.heap_setCell _ _ _ _ (by show w5.heap.size + 1 ≠ w5.heap.size; omega))
  have hB8 : Below w5.heap.size w5 W8 := putN_below (hb.setCell (p := ⟨w5.heap.size, 1, none⟩) (Nat.le_refl _) _) (Nat.le_succ _) _
  refine ⟨((hs.set1 ((q : Int) + 1)).kept (w1 := W8) (putN_block (by omega) _)).keep hba, (hn1.put _).keep hba, hB8.trans (hba.mono hB8.size), ?_⟩
  unfold TreeM
  refine ⟨rfl, SetIs.no hop _ _, [nd], ?_, fun k hkk => ?_, ?_⟩
  · rw [rdRow_one]
    have h := World.ownsRow_lit (base := 0) (e := 30) (size := 3) W8 #[.int .i64 nd.op, .string nd.set, .slice nd.kp nd.kn nd.kc] 1 (Nat.zero_le _) (by decide) rfl
    rw [hsz8] at h
    exact h
  · have e : w7.heap.size = k := Option.some.inj hkk
    refine ⟨by omega, by omega, by omega, by omega⟩
  · unfold TreesM
    refine ⟨nd, [], rfl, TreeM.kept (fun k hk1 hl => ?_) (fun k hk1 _ => hk1) t nd hT, by unfold TreesM; rfl⟩
    have h7 : k < w7.heap.size := Nat.lt_of_lt_of_le hl hk.size
    rw [hba.block k (by rw [hsz8]; exact h7), hbk k hk1.2.2.1 hk1.2.2.2]
    exact hk.block k hl
theorem drew_heap (W : World) (k : Nat) : W.drew.heap[k]? = W.heap[k]? := rfl
set_option maxHeartbeats 8000000 in
set_option maxRecDepth 100000 in
theorem scat_any (s : ByteArray) (q dp : Nat) (bd : Int) (D : Nat) (G : List UInt8 → PR RT) (hs : s.size ≤ 300) (hq : q ≤ s.size) (_hdp : dp ≤ 20) (hD : D ≤ 100) (hG : ∀ l t r, G l = .ok (t, r) → r.length ≤ l.length)
    (HAt : ∀ q (h : q < s.size), s[q] ≠ 124 → s[q] ≠ 41 → ∀ W, Calls Tryd.prog 57 #[rsv s (q : Int) (dp : Int) 0 bd] W (AxPost s (dp : Int) bd D (atomX G (s.data.toList.drop q)) W)) (w : World) :
    Calls Tryd.prog 34 #[rsv s (q : Int) (dp : Int) 0 bd] w (AxPost s (dp : Int) bd D (catX dp G (s.data.toList.drop q)) w) := by
  obtain ⟨i0, hi, hz0, hz1, hz2⟩ := info_parts Tryd.infoRN
  have H0 := Lib.hid ((Rs3.start w s (q : Int) (dp : Int) 0 bd 58).keep ((Below.refl _ _).alloc (Nat.le_refl _) (.cells #[] 30)))
  have HR0 := World.ownsRow_lit (base := w.heap.size + 3) (e := 30) (size := 3) (((w.alloc (.cells #[.string s, .int .i64 (q : Int), .int .i64 (dp : Int), .int .i64 0, .int .i64 bd] 58)).alloc (.cells #[.string ⟨#[]⟩, .int .i64 0, .int .i64 0, .int .i64 0, .int .i64 0] 58)).alloc (.cells #[.int .i64 0, .string ⟨#[]⟩, .slice none 0 0] 30)) #[] 0 (by simp) (by decide) rfl
  rw [show (((w.alloc (.cells #[.string s, .int .i64 (q : Int), .int .i64 (dp : Int), .int .i64 0, .int .i64 bd] 58)).alloc (.cells #[.string ⟨#[]⟩, .int .i64 0, .int .i64 0, .int .i64 0, .int .i64 0] 58)).alloc (.cells #[.int .i64 0, .string ⟨#[]⟩, .slice none 0 0] 30)).heap.size = w.heap.size + 3 by simp] at HR0
  have HR0 := Lib.hid HR0
  obtain ⟨X, hX⟩ : ∃ X, catX dp G (s.data.toList.drop q) = X := ⟨_, rfl⟩
  rw [hX]
  rw [catX_end] at hX
  obtain ⟨P, hP⟩ : ∃ P, partF 2 (partLoop withW notW orW G ((s.data.toList.drop q).length + 1) (s.data.toList.drop q) []) = P := ⟨_, rfl⟩
  rw [hP] at hX
  subst hX
  have HS0 : Hid (∀ wr, CtSt w s bd G P 0 (q : Int) 0 bd [] (.slice (some ⟨w.heap.size + 3, 0, none⟩) 0 0) wr) := Lib.hid fun wr => .inl ⟨rfl, rfl, q, _, [], rfl, Nat.zero_le _, hq, Nat.lt_succ_self _, hP, .inl rfl, by unfold TreesM; rfl⟩
  have HA := Lib.hid HAt
  have HGL := Lib.hid hG
  clear hP HAt hG
  show Calls Tryd.prog 34 #[.agg #[.string s, .int .i64 (q : Int), .int .i64 (dp : Int), .int .i64 0, .int .i64 bd]] w _
  go_enter Tryd.func34, Tryd.ntmps34
  go_wp2_with fail
  generalize hW : ((((w.alloc (.cells #[.string s, .int .i64 (q : Int), .int .i64 (dp : Int), .int .i64 0, .int .i64 bd] 58)).alloc (.cells #[.string ⟨#[]⟩, .int .i64 0, .int .i64 0, .int .i64 0, .int .i64 0] 58)).alloc (.cells #[.int .i64 0, .string ⟨#[]⟩, .slice none 0 0] 30)).alloc (.cells #[] 30)) = w1 at *
  clear hW
  go_loopw [4, 5] (fun lv iv wr => ∃ (i m g c : Nat) (a er b' : Int) (nds : List RNd), i ≤ s.size ∧ m ≤ i ∧ 0 ≤ a ∧ a ≤ (s.size : Int) + 4 + D ∧ lv = .slice (some ⟨g, 0, none⟩) m c ∧ iv = .int .i64 (i : Int) ∧ Hid (m = nds.length) ∧ Hid (CtSt w s bd G P i a er b' nds (.slice (some ⟨g, 0, none⟩) m c) wr) ∧ Hid (Rs3 w s a (dp : Int) er b' wr) ∧ Hid (wr.ownsRow (w.heap.size + 3) 30 3 (.slice (some ⟨g, 0, none⟩) m c) m (rdRow nds))) (fun _ iv _ => s.size + 1 - (intOf iv).toNat)
  case atStart => exact ⟨0, 0, w.heap.size + 3, 0, (q : Int), 0, bd, [], Nat.zero_le _, Nat.le_refl _, by omega, by omega, rfl, rfl, Lib.hid rfl, Lib.hid (HS0.out _), H0, HR0⟩
  case round =>
    obtain ⟨i, m, g, c, a, er, b', nds, hi', hm, ha0, ha1, rfl, rfl, HM, HST, HR, HRow⟩ := hrel
    clear H0 HR0 HS0
    have hile : (i : Int) ≤ (s.size : Int) := by omega
    obtain ⟨z, fl, stop, er1, b1, hCs, hfl, hCf, hgo⟩ := ct_round (dp := dp) hs HST.out
    have HCS := Lib.hid hCs
    have HGO := Lib.hid hgo
    unfold rsv at HCS
    clear hCs hgo HST
    obtain ⟨c0, c1, c2, c3, c4, f0, f1, f2, f3, f4⟩ := HR.out.rs.own
    go_wp2_with fail
    refine (HCS.out _).mono ?_
    rintro e w2 ⟨rfl, hb2⟩
    have H2 := Lib.hid (HR.out.keep hb2)
    have HRow2 := Lib.hid (rg_own_kept HRow.out (fun g hg => hb2.block g (rg_own_base HRow.out g hg).2))
    have HK2 : Hid (∀ g, w.heap.size + 3 ≤ g → g < wr.heap.size → w2.heap[g]? = wr.heap[g]?) := Lib.hid fun g _ hl => hb2.block g hl
    have hsz2 : wr.heap.size ≤ w2.heap.size := hb2.size
    clear hb2 HR HRow c0 c1 c2 c3 c4 f0 f1 f2 f3 f4 HCS
    obtain ⟨c0, c1, c2, c3, c4, f0, f1, f2, f3, f4⟩ := H2.out.rs.own
    go_upto_region 6 with fail
    go_cut [28] (fun v wx => v = .bool fl ∧ wx = w2)
    case first =>
      rcases hfl with ⟨h1, h2⟩ | ⟨h1, rfl⟩
      · by_cases hd0 : dp = 0
        · have hf : fl = true := by rw [h2]; exact decide_eq_true hd0
          have hdi : ((dp : Int) == 0) = true := by rw [hd0]; rfl
          subst hf
          clear hd0 h2
          go_wp2_with fail
          go_meet
          exact ⟨rfl, rfl⟩
        · have hf : fl = false := by rw [h2]; exact decide_eq_false hd0
          have hdi : ((dp : Int) == 0) = false := by rw [beq_eq_false_iff_ne]; omega
          subst hf
          clear hd0 h2
          go_wp2_with fail
          go_meet
          exact ⟨rfl, rfl⟩
      · go_wp2_with fail
        go_meet
        exact ⟨rfl, rfl⟩
    case rest =>
    obtain ⟨rfl, rfl⟩ := hcut
    go_upto_if 28 with fail
    go_cut [6] (fun v wx => v = .int .i64 z ∧ Hid (Rs3 w s a (dp : Int) er1 b1 wx) ∧ Hid (wx.ownsRow (w.heap.size + 3) 30 3 (.slice (some ⟨g, 0, none⟩) m c) m (rdRow nds)) ∧ Hid (∀ g, w.heap.size + 3 ≤ g → g < wr.heap.size → wx.heap[g]? = wr.heap[g]?) ∧ wr.heap.size ≤ wx.heap.size)
    case first =>
      rcases hCf with ⟨rfl, rfl, rfl⟩ | ⟨rfl, hf⟩
      · go_wp2_with fail
        go_meet
        exact ⟨rfl, H2, HRow2, HK2, hsz2⟩
      · have HF := Lib.hid hf
        unfold rsv at HF
        clear hf hfl
        go_wp2_with fail
        refine (HF.out _).mono ?_
        rintro e w3 ⟨rfl, hb3⟩
        have H3 := Lib.hid (H2.out.keep hb3)
        have HRow3 := Lib.hid (rg_own_kept HRow2.out (fun g hg => hb3.block g (rg_own_base HRow2.out g hg).2))
        have HK3 : Hid (∀ g, w.heap.size + 3 ≤ g → g < wr.heap.size → w3.heap[g]? = wr.heap[g]?) := Lib.hid fun g h hl => (hb3.block g (Nat.lt_of_lt_of_le hl hsz2)).trans (HK2.out g h hl)
        have hsz3 : wr.heap.size ≤ w3.heap.size := Nat.le_trans hsz2 hb3.size
        clear hb3 H2 HRow2 HK2 c0 c1 c2 c3 c4 f0 f1 f2 f3 f4 HF
        obtain ⟨c0, c1, c2, c3, c4, f0, f1, f2, f3, f4⟩ := H3.out.rs.own
        have H4 := Lib.hid (H3.out.put a (dp : Int) er1 b1)
        have HRow4 := Lib.hid (rg_own_kept (w' := putS w3 w.heap.size s a (dp : Int) er1 b1) HRow3.out (fun g hg => putS_block (by have := (rg_own_base HRow3.out g hg).1; omega) _ _ _ _ _))
        have HK4 : Hid (∀ g, w.heap.size + 3 ≤ g → g < wr.heap.size → (putS w3 w.heap.size s a (dp : Int) er1 b1).heap[g]? = wr.heap[g]?) := Lib.hid fun g h hl => (putS_block (by omega) _ _ _ _ _).trans (HK3.out g h hl)
        have hsz4 : wr.heap.size ≤ (putS w3 w.heap.size s a (dp : Int) er1 b1).heap.size := by rw [putS_size]; exact hsz3
        have HSZ4 := Lib.hid hsz4
        clear hsz4
        go_wp2_with fail
        go_meet
        exact ⟨rfl, H4, HRow4, HK4, HSZ4.out⟩
    case rest =>
    obtain ⟨rfl, H4, HRow4, HK4, hsz4⟩ := hcut
    clear H2 HRow2 HK2 hsz2 hCf hfl c0 c1 c2 c3 c4 f0 f1 f2 f3 f4
    go_upto_region 8 with fail
    go_cut [42] (fun v wx => v = .bool stop ∧ wx = wc)
    case first =>
      rcases HGO.out with ⟨rfl, h | ⟨h1, h2⟩ | ⟨h1, h2, h3⟩, -⟩ | ⟨rfl, h1, h2, h3, -⟩
      · have hd := decide_eq_true h
        go_wp2_with fail
        go_meet
        exact ⟨rfl, rfl⟩
      · have hd : decide (z < 0) = false := decide_eq_false (by omega)
        go_wp2_with fail
        go_meet
        first | exact ⟨rfl, rfl⟩ | exact ⟨congrArg Value.bool hd, rfl⟩
      · have hd : decide (z < 0) = false := decide_eq_false (by omega)
        go_wp2_with fail
        go_meet
        first | exact ⟨rfl, rfl⟩ | exact ⟨congrArg Value.bool hd, rfl⟩
      · have hd : decide (z < 0) = false := decide_eq_false (by omega)
        go_wp2_with fail
        go_meet
        first | exact ⟨rfl, rfl⟩ | exact ⟨congrArg Value.bool hd, rfl⟩
    case rest =>
    obtain ⟨rfl, rfl⟩ := hcut
    cases stop with
    | true =>
      have HEND : Hid (CtEnd w s bd (endC dp P) a er1 b1 nds (.slice (some ⟨g, 0, none⟩) m c) wc) := Lib.hid (by
        rcases HGO.out with ⟨_, _, h⟩ | ⟨h, _⟩
        · exact h.kept HK4.out
        · cases h)
      clear HGO HK4
      obtain ⟨c0, c1, c2, c3, c4, f0, f1, f2, f3, f4⟩ := H4.out.rs.own
      obtain ⟨r0, r1, r2, r3, r4, g0, g1, g2, g3, g4⟩ := H4.out.rs.res
      obtain ⟨n0, n1, n2, k0, k1, k2⟩ := H4.out.nod
      unfold RNd.zero at n0 n1 n2
      have HMR := Lib.hid (And.intro HM.out HRow4.out)
      clear HM HRow4
      rcases nds with _ | ⟨x, _ | ⟨y, nds⟩⟩
      · obtain rfl : m = 0 := HMR.out.1
        have HL := Lib.hid (H4.out.last a (dp : Int) er1 b1 RNd.zero)
        go_wp2_with fail
        refine bodyPost_ret (v := .tuple #[rsv s a (dp : Int) er1 b1, RNd.zero.val]) ?_ ?_ ?_
        · exact cat_results _ _ _ _ _ _ _ _ _ _ HL.out.1 HL.out.2.1 rfl rfl
        · rfl
        · exact ct_last (w' := put2 w wc s a (dp : Int) er1 b1 RNd.zero) HMR.out.1 HEND.out HMR.out.2 ha0 ha1 (fun g hg => put2_block _ _ _ _ _ _ _ _ hg) HL.out.2.2
      · obtain rfl : m = 1 := HMR.out.1
        obtain ⟨x0, x1, x2⟩ := rdRow_cells (nds := [x]) HMR.out.2 0 x rfl
        rw [show 0 * 3 + 1 = 1 from rfl] at x1
        rw [show 0 * 3 + 2 = 2 from rfl] at x2
        rw [show 0 * 3 = 0 from rfl] at x0
        have hgl : g < wc.heap.size := (rg_own_base HMR.out.2 g rfl).2
        have hgb := (rg_own_base HMR.out.2 g rfl).1
        have hg1 : g ≠ w.heap.size + 1 := by omega
        have hg2 : g ≠ w.heap.size + 1 + 1 := by omega
        have HL := Lib.hid (last2_drew H4.out a (dp : Int) er1 b1 x)
        go_upto_region 27 with fail
        go_region
        all_goals
          try simp only [Act.put, List.getElem_toArray, List.getElem_cons_succ, List.getElem_cons_zero]
          go_wp2_with fail
          refine bodyPost_ret (v := .tuple #[rsv s a (dp : Int) er1 b1, x.val]) ?_ ?_ ?_
          · exact cat_results _ _ _ _ _ _ _ _ _ _ HL.out.1 HL.out.2.1 rfl rfl
          · rfl
          · exact ct_last (nds := [x]) (w' := (put2 w wc s a (dp : Int) er1 b1 x).drew) HMR.out.1 HEND.out HMR.out.2 ha0 ha1 (fun g hg => (drew_heap _ g).trans (put2_block _ _ _ _ _ _ _ _ hg)) HL.out.2.2
      · obtain ⟨mm, rfl⟩ : ∃ mm, m = mm + 2 := ⟨nds.length, by have := HMR.out.1; simpa using this⟩
        have hm0 : (((mm + 2 : Nat) : Int) == 0) = false := by rw [beq_eq_false_iff_ne]; omega
        have hm1 : (((mm + 2 : Nat) : Int) == 1) = false := by rw [beq_eq_false_iff_ne]; omega
        have HL := Lib.hid (H4.out.last a (dp : Int) er1 b1 ⟨2, ⟨#[]⟩, some ⟨g, 0, none⟩, mm + 2, c⟩)
        go_wp2_with fail
        refine bodyPost_ret (v := .tuple #[rsv s a (dp : Int) er1 b1, (⟨2, ⟨#[]⟩, some ⟨g, 0, none⟩, mm + 2, c⟩ : RNd).val]) ?_ ?_ ?_
        · exact cat_results _ _ _ _ _ _ _ _ _ _ HL.out.1 HL.out.2.1 rfl rfl
        · rfl
        · exact ct_last (w' := put2 w wc s a (dp : Int) er1 b1 ⟨2, ⟨#[]⟩, some ⟨g, 0, none⟩, mm + 2, c⟩) HMR.out.1 HEND.out HMR.out.2 ha0 ha1 (fun g hg => put2_block _ _ _ _ _ _ _ _ hg) HL.out.2.2
    | false =>
      obtain ⟨rfl, hbe1, rfl, hbe2, p, f, ts, rfl, hip, hp, h124, h41, hf, hP, hts, hT⟩ : er = 0 ∧ b' = bd ∧ er1 = 0 ∧ b1 = bd ∧ ∃ (q f : Nat) (ts : List RT), a = (q : Int) ∧ i ≤ q ∧ ∃ hq : q < s.size, s[q] ≠ 124 ∧ s[q] ≠ 41 ∧ (s.data.toList.drop q).length < f + 1 ∧ partF 2 (partLoop withW notW orW G (f + 1) (s.data.toList.drop q) ts) = P ∧ (ts = [] ∨ signB s[q] = false) ∧ TreesM wc (fun k => w.heap.size + 3 ≤ k ∧ (Value.slice (some ⟨g, 0, none⟩) m c).ownBlock ≠ some k) ts nds := by
        rcases HGO.out with ⟨h, _⟩ | ⟨_, _, _, _, h1, h2, h3, h4, q, f, ts, h5, h6, h7, h8, h9, h10, h11, h12, h13⟩
        · cases h
        · exact ⟨h1, h2, h3, h4, q, f, ts, h5, h6, h7, h8, h9, h10, h11, h12, TreesM.kept (fun g hg hl => HK4.out g hg.1 hl) (fun g hg _ => hg) ts nds h13⟩
      have hbe1 := hbe1.symm
      subst hbe1
      have hbe2 := hbe2.symm
      subst hbe2
      have CA := Lib.hid fun W => HA.out p hp h124 h41 W
      have HFI := Lib.hid (fun (a er b' : Int) (nd : RNd) (w5 wx : World) (B B' : Nat → Prop) h hw => in_first (bd := bd) (a := a) (er := er) (b' := b') (nd := nd) (w5 := w5) (wx := wx) (B := B) (B' := B') HGL.out hp h124 h41 hf hP hts h hw)
      have HTS := Lib.hid hT
      have hpi : i + 1 ≤ p + 1 := by omega
      unfold AxPost rsv RNd.val at CA
      clear HGO HK4 h124 h41 hf hP hts hT HA
      obtain ⟨c0, c1, c2, c3, c4, f0, f1, f2, f3, f4⟩ := H4.out.rs.own
      go_wp2_with fail
      refine (CA.out _).mono ?_
      rintro e w5 ⟨⟨a, er, b', nd, rfl, hb0, hb1, hab⟩, hb5⟩
      have H5 := Lib.hid (H4.out.keep hb5)
      have HRow5 := Lib.hid (rg_own_kept HRow4.out (fun g hg => hb5.block g (rg_own_base HRow4.out g hg).2))
      have HTS5 := Lib.hid (HTS.out.below hb5)
      have hgl : g < wc.heap.size := (rg_own_base HRow4.out g rfl).2
      have hwc5 : wc.heap.size ≤ w5.heap.size := hb5.size
      have hw3 := H4.out.size
      have HAB := Lib.hid hab
      have hlt5 := H5.out.size
      clear hb5 H4 HRow4 c0 c1 c2 c3 c4 f0 f1 f2 f3 f4 CA HTS hab
      have hb1' := (Below.refl _ w5).alloc (Nat.le_refl _) (.cells #[.string s, .int .i64 a, .int .i64 (dp : Int), .int .i64 er, .int .i64 b'] 58)
      have hb2' := hb1'.alloc (by simp) (.cells #[.int .i64 nd.op, .string nd.set, .slice nd.kp nd.kn nd.kc] 30)
      have hS6 := (Ss.new w5 58 s a (dp : Int) er b').keep ((Below.refl _ _).alloc (Nat.le_refl _) (.cells #[.int .i64 nd.op, .string nd.set, .slice nd.kp nd.kn nd.kc] 30))
      have hN6 := Rsn.new (w5.alloc (.cells #[.string s, .int .i64 a, .int .i64 (dp : Int), .int .i64 er, .int .i64 b'] 58)) 30 nd
      rw [show (w5.alloc (.cells #[.string s, .int .i64 a, .int .i64 (dp : Int), .int .i64 er, .int .i64 b'] 58)).heap.size = w5.heap.size + 1 by simp] at hN6
      have HI0 : Hid (InSt s bd G P (fun k => w.heap.size + 3 ≤ k ∧ k ≠ g ∧ k ≠ w5.heap.size ∧ k ≠ w5.heap.size + 1) ts p 0 a er b' nd ((w5.alloc (.cells #[.string s, .int .i64 a, .int .i64 (dp : Int), .int .i64 er, .int .i64 b'] 58)).alloc (.cells #[.int .i64 nd.op, .string nd.set, .slice nd.kp nd.kn nd.kc] 30))) := Lib.hid (HFI.out a er b' nd w5 _ _ _ HAB.out (fun t ht => TreeM.kept (fun k _ hl => hb2'.block k hl) (fun k hk hl => ⟨by omega, by omega, by omega, by omega⟩) t nd ht))
      go_upto_region 10 with fail
      generalize hw6 : (w5.alloc (.cells #[.string s, .int .i64 a, .int .i64 (dp : Int), .int .i64 er, .int .i64 b'] 58)).alloc (.cells #[.int .i64 nd.op, .string nd.set, .slice nd.kp nd.kn nd.kc] 30) = w6 at *
      clear hw6 hb1' HFI HAB
      have HS6 := Lib.hid hS6
      have HN6 := Lib.hid hN6
      have HB6 := Lib.hid hb2'
      clear hS6 hN6 hb2'
      go_wp2_with fail
      go_loopw [9] (fun kv wx => ∃ (k : Nat) (a er b' : Int) (nd : RNd), kv = .int .i64 (k : Int) ∧ k ≤ s.size ∧ 0 ≤ a ∧ a ≤ (s.size : Int) + 4 + D ∧ Hid (InSt s bd G P (fun k => w.heap.size + 3 ≤ k ∧ k ≠ g ∧ k ≠ w5.heap.size ∧ k ≠ w5.heap.size + 1) ts p k a er b' nd wx) ∧ Hid (Ss wx w5.heap.size s a (dp : Int) er b') ∧ Hid (Rsn wx (w5.heap.size + 1) nd) ∧ Hid (Below w5.heap.size w5 wx)) (fun kv _ => s.size + 1 - (intOf kv).toNat)
      case atStart => exact ⟨0, a, er, b', nd, rfl, Nat.zero_le _, hb0, hb1, HI0, HS6, HN6, HB6⟩
      case round =>
        clear HI0 HS6 HN6 HB6 hb0 hb1
        obtain ⟨k, a, er, b', nd, rfl, hk, hb0, hb1, HI, HS6, HN6, HB6⟩ := hrel
        obtain ⟨z, hCs, hz⟩ := in_round (dp := (dp : Int)) hs HI.out
        have HCS := Lib.hid hCs
        unfold rsv at HCS
        clear hCs HI
        have H6 := Lib.hid (show Rs3 w s (p : Int) (dp : Int) 0 bd _ from H5.out.kept (fun k hk => HB6.out.block k (by omega)) (H5.out.rs.below.trans (HB6.out.mono H5.out.rs.below.size)))
        obtain ⟨c0, c1, c2, c3, c4, f0, f1, f2, f3, f4⟩ := H6.out.rs.own
        obtain ⟨d0, d1, d2, d3, d4, e0, e1, e2, e3, e4⟩ := HS6.out
        have hki : (k : Int) ≤ (s.size : Int) := by omega
        rcases hz with ⟨z1, z2, z3, hend⟩ | ⟨op, hop, rfl, hbe, q, f, t, rfl, hpq, hqs, hf, hP, hT⟩
        · have HEND := Lib.hid hend
          clear hend
          go_wp2_with fail
          refine (HCS.out _).mono ?_
          rintro e w7 ⟨rfl, hb7⟩
          have H7 := Lib.hid (H6.out.keep hb7)
          have HS7 := Lib.hid (HS6.out.keep hb7)
          have HN7 := Lib.hid (HN6.out.keep hb7)
          have HB7 := Lib.hid (HB6.out.trans (hb7.mono HB6.out.size))
          have HK7 := Lib.hid hb7
          clear hb7 H6 HS6 HN6 c0 c1 c2 c3 c4 f0 f1 f2 f3 f4 d0 d1 d2 d3 d4 e0 e1 e2 e3 e4 HCS
          obtain ⟨c0, c1, c2, c3, c4, f0, f1, f2, f3, f4⟩ := H7.out.rs.own
          obtain ⟨d0, d1, d2, d3, d4, e0, e1, e2, e3, e4⟩ := HS7.out
          have H8 := Lib.hid (H7.out.put a (dp : Int) er b')
          have HRow8 : Hid ((putS w7 w.heap.size s a (dp : Int) er b').ownsRow (w.heap.size + 3) 30 3 (.slice (some ⟨g, 0, none⟩) m c) m (rdRow nds)) := Lib.hid (rg_own_kept HRow5.out (fun k hk => by
            have h1 := rg_own_base HRow5.out k hk
            rw [putS_block (by omega)]
            exact HB7.out.block k h1.2))
          have hN8 := HN7.out.kept (w1 := putS w7 w.heap.size s a (dp : Int) er b') (putS_block (by omega) _ _ _ _ _)
          have hsz8 : (putS w7 w.heap.size s a (dp : Int) er b').heap.size = w7.heap.size := putS_size _ _ _ _ _ _ _
          have hK8 : ∀ k, k ≠ w.heap.size → (putS w7 w.heap.size s a (dp : Int) er b').heap[k]? = w7.heap[k]? := fun k hk => putS_block hk _ _ _ _ _
          go_upto_region 23 with fail
          unfold putS at H8 HRow8 hN8 hsz8 hK8
          generalize hw8 : ((((w7.setCell ⟨w.heap.size, 0, none⟩ (.string s)).setCell ⟨w.heap.size, 1, none⟩ (.int .i64 a)).setCell ⟨w.heap.size, 2, none⟩ (.int .i64 (dp : Int))).setCell ⟨w.heap.size, 3, none⟩ (.int .i64 er)).setCell ⟨w.heap.size, 4, none⟩ (.int .i64 b') = w8 at *
          clear hw8 c0 c1 c2 c3 c4 f0 f1 f2 f3 f4 d0 d1 d2 d3 d4 e0 e1 e2 e3 e4 H7 HS7 HN7
          obtain ⟨n0, n1, n2, -⟩ := hN8
          have HSZ8 := Lib.hid hsz8
          have HK8 := Lib.hid hK8
          clear hsz8 hK8
          have hm300 : m ≤ 300 := by omega
          go_wp2_with (at_builtin; refine wpList_append_own_at _ rfl (.tmp 80) (.tmp 82) 28 rfl (w.heap.size + 3) 30 i0 (.agg #[.int .i64 0, .string ⟨#[]⟩, .slice none 0 0]) 3 48 Tryd.underlying28 hi hz0 hz1 hz2 rfl (by decide) (.slice (some ⟨g, 0, none⟩) m c) m (rdRow nds) rfl (HRow8.out.alloc _) ⟨w8.heap.size, 0, none⟩ 1 1 nd.vals (by simp [go_sem]) rfl ?c1 ?c2 ?c3 ?c4 ?c5 ?_)
          case c1 => exact rnd_new _ nd (by simp)
          case c2 => simp [RNd.vals, Value.oneCell']
          case c3 => unfold maxLen; omega
          case c4 => omega
          case c5 => have := H8.out.size; simp; omega
          intro v9 w9 hown9 hgrow9 _ hat9
          obtain ⟨g9, c9, rfl, -⟩ := rg_own_succ hown9
          have hgb := (rg_own_base HRow8.out g rfl).1
          have hne : ∀ j, j < w8.heap.size → j ≠ g → w9.heap[j]? = w8.heap[j]? := fun j hj hjg => by
            rw [← Below.heap_alloc w8 (.cells #[.int .i64 nd.op, .string nd.set, .slice nd.kp nd.kn nd.kc] 30) j hj]
            exact hgrow9.block j (by simp; omega) (fun e => hjg (show j = g from Option.some.inj e))
          have hsz78 := HSZ8.out
          have hsz57 := HB7.out.size
          have hszr7 := HK7.out.size
          have hg9 : g9 = g ∨ g9 = w8.heap.size + 1 := by
            rcases hat9 with h | h
            · exact .inl (Option.some.inj h)
            · exact .inr (Option.some.inj h)
          have H9 : Hid (Rs3 w s a (dp : Int) er b' w9) := Lib.hid (H8.out.kept (fun k hk => hne k (by have := H8.out.size; omega) (by omega)) ((H8.out.rs.below.alloc H8.out.rs.below.size _).grown hgrow9 (by simp; have := H8.out.rs.below.size; omega) (fun j hj => by have h : g = j := Option.some.inj hj; omega)))
          have HRow9 : Hid (w9.ownsRow (w.heap.size + 3) 30 3 (.slice (some ⟨g9, 0, none⟩) (m + 1) c9) (m + 1) (rdRow (nds ++ [nd]))) := Lib.hid (by rw [rdRow_append, rdRow_one]; exact hown9)
          have HM9 : Hid (m + 1 = (nds ++ [nd]).length) := Lib.hid (by rw [List.length_append, ← HM.out]; rfl)
          have HST9 : Hid (CtSt w s bd G P (i + 1) a er b' (nds ++ [nd]) (.slice (some ⟨g9, 0, none⟩) (m + 1) c9) w9) := Lib.hid (by
            have hob : ∀ k, k < w8.heap.size → k ≠ g → (Value.slice (some ⟨g9, 0, none⟩) (m + 1) c9).ownBlock ≠ some k := fun k hk hkg e => by
              have e2 : g9 = k := Option.some.inj e
              omega
            rcases HEND.out with ⟨h1, h2, q, f, t, h3, h4, h5, h6, h7, h8, hT⟩ | h
            · refine .inl ⟨h1, h2, q, f, ts ++ [t], h3, by omega, h5, h6, h7, .inr h8, TreesM.snoc ?_ ?_⟩
              · refine TreeM.kept (fun k hk hl => ?_) (fun k hk hl => ⟨hk.1, hob k (by omega) hk.2.1⟩) t nd hT
                rw [hne k (by omega) hk.2.1, HK8.out k (by have := hk.1; omega)]
                exact HK7.out.block k hl
              · refine TreesM.kept (fun k hk hl => ?_) (fun k hk hl => ⟨hk.1, hob k (by omega) (fun e => hk.2 (by rw [e]; rfl))⟩) ts nds HTS5.out
                rw [hne k (by omega) (fun e => hk.2 (by rw [e]; rfl)), HK8.out k (by have := hk.1; omega)]
                exact HB7.out.block k hl
            · exact .inr h)
          clear hown9 hgrow9 hat9 hne HEND HK8 HRow8 H8 HK7 HB7 HSZ8 n0 n1 n2 hsz78 hsz57 hszr7
          go_wp2_with fail
          go_roundw
          case rel => exact ⟨i + 1, m + 1, g9, c9, a, er, b', nds ++ [nd], by omega, by omega, hb0, hb1, rfl, by go_num, HM9, HST9, H9, HRow9⟩
          case measure => simp [intOf]; omega
        · have HP := Lib.hid hP
          have HT := Lib.hid hT
          have hbe := hbe.symm
          subst hbe
          clear hP hT
          have hop1 : op = 4 ∨ op = 5 ∨ op = 6 := by rcases hop with ⟨h, _⟩ | ⟨h, _⟩ | ⟨h, _⟩ <;> omega
          have hop2 : op ≠ 1 := by omega
          rcases hop with ⟨rfl, rfl⟩ | ⟨rfl, rfl⟩ | ⟨rfl, rfl⟩
          · go_wp2_with fail
            refine (HCS.out _).mono ?_
            rintro e w7 ⟨rfl, hb7⟩
            have HS7 := Lib.hid (HS6.out.keep hb7)
            have HN7 := Lib.hid (HN6.out.keep hb7)
            have HB7 := Lib.hid (HB6.out.trans (hb7.mono HB6.out.size))
            have HK7 := Lib.hid hb7
            clear hb7 H6 HS6 HN6 c0 c1 c2 c3 c4 f0 f1 f2 f3 f4 d0 d1 d2 d3 d4 e0 e1 e2 e3 e4 HCS
            obtain ⟨d0, d1, d2, d3, d4, e0, e1, e2, e3, e4⟩ := HS7.out
            obtain ⟨n0, n1, n2, k0, k1, k2⟩ := HN7.out
            have hb7l := HS7.out.lt
            have hb8l := HN7.out.lt
            have HF := Lib.hid (sign_back (q := q) (4) (by decide) HS7.out HN7.out HB7.out HT.out HK7.out (by omega) hgl hwc5 (by have := HK7.out.size; have := HB6.out.size; omega))
            have hq300 : (q : Int) + 1 ≤ 300 := by omega
            go_wp2_with fail
            go_roundw
            case rel => exact ⟨k + 1, (q : Int) + 1, 0, bd, ⟨4, ⟨#[]⟩, some ⟨w7.heap.size, 0, none⟩, 1, 1⟩, by go_num, by omega, by omega, by omega, Lib.hid (.inl ⟨rfl, rfl, q + 1, f, .mk 4 W4.zero [t], by omega, by omega, hqs, hf, HP.out, HF.out.2.2.2⟩), Lib.hid HF.out.1, Lib.hid HF.out.2.1, Lib.hid HF.out.2.2.1⟩
            case measure => simp [intOf]; omega
          · go_wp2_with fail
            refine (HCS.out _).mono ?_
            rintro e w7 ⟨rfl, hb7⟩
            have HS7 := Lib.hid (HS6.out.keep hb7)
            have HN7 := Lib.hid (HN6.out.keep hb7)
            have HB7 := Lib.hid (HB6.out.trans (hb7.mono HB6.out.size))
            have HK7 := Lib.hid hb7
            clear hb7 H6 HS6 HN6 c0 c1 c2 c3 c4 f0 f1 f2 f3 f4 d0 d1 d2 d3 d4 e0 e1 e2 e3 e4 HCS
            obtain ⟨d0, d1, d2, d3, d4, e0, e1, e2, e3, e4⟩ := HS7.out
            obtain ⟨n0, n1, n2, k0, k1, k2⟩ := HN7.out
            have hb7l := HS7.out.lt
            have hb8l := HN7.out.lt
            have HF := Lib.hid (sign_back (q := q) (5) (by decide) HS7.out HN7.out HB7.out HT.out HK7.out (by omega) hgl hwc5 (by have := HK7.out.size; have := HB6.out.size; omega))
            have hq300 : (q : Int) + 1 ≤ 300 := by omega
            go_wp2_with fail
            go_roundw
            case rel => exact ⟨k + 1, (q : Int) + 1, 0, bd, ⟨5, ⟨#[]⟩, some ⟨w7.heap.size, 0, none⟩, 1, 1⟩, by go_num, by omega, by omega, by omega, Lib.hid (.inl ⟨rfl, rfl, q + 1, f, .mk 5 W4.zero [t], by omega, by omega, hqs, hf, HP.out, HF.out.2.2.2⟩), Lib.hid HF.out.1, Lib.hid HF.out.2.1, Lib.hid HF.out.2.2.1⟩
            case measure => simp [intOf]; omega
          · go_wp2_with fail
            refine (HCS.out _).mono ?_
            rintro e w7 ⟨rfl, hb7⟩
            have HS7 := Lib.hid (HS6.out.keep hb7)
            have HN7 := Lib.hid (HN6.out.keep hb7)
            have HB7 := Lib.hid (HB6.out.trans (hb7.mono HB6.out.size))
            have HK7 := Lib.hid hb7
            clear hb7 H6 HS6 HN6 c0 c1 c2 c3 c4 f0 f1 f2 f3 f4 d0 d1 d2 d3 d4 e0 e1 e2 e3 e4 HCS
            obtain ⟨d0, d1, d2, d3, d4, e0, e1, e2, e3, e4⟩ := HS7.out
            obtain ⟨n0, n1, n2, k0, k1, k2⟩ := HN7.out
            have hb7l := HS7.out.lt
            have hb8l := HN7.out.lt
            have HF := Lib.hid (sign_back (q := q) (6) (by decide) HS7.out HN7.out HB7.out HT.out HK7.out (by omega) hgl hwc5 (by have := HK7.out.size; have := HB6.out.size; omega))
            have hq300 : (q : Int) + 1 ≤ 300 := by omega
            go_wp2_with fail
            go_roundw
            case rel => exact ⟨k + 1, (q : Int) + 1, 0, bd, ⟨6, ⟨#[]⟩, some ⟨w7.heap.size, 0, none⟩, 1, 1⟩, by go_num, by omega, by omega, by omega, Lib.hid (.inl ⟨rfl, rfl, q + 1, f, .mk 6 W4.zero [t], by omega, by omega, hqs, hf, HP.out, HF.out.2.2.2⟩), Lib.hid HF.out.1, Lib.hid HF.out.2.1, Lib.hid HF.out.2.2.1⟩
            case measure => simp [intOf]; omega
end Go.Proofs.YtjjejcgpeefclaaDoor
