/-
  CONTRACT of the document's own reader of things (scriberef09.atom), its brackets' reader as a hypothesis.
-/
import Derived.Test.YtjjejcgpeefclaaDoorMq6
namespace Go.Proofs.YtjjejcgpeefclaaDoor
open Go.RowKit

theorem notB_zero : SetIs 1 (notW W4.zero) ⟨(bytesN [] true 256).toArray⟩ := set_text (f := fun _ => false) StF.zero [] (fun c _ => rfl) true _ (by simp)
theorem AxPost.mk {s : ByteArray} {dp bd : Int} {d : Nat} {X : PR RT} {w w' : World} {a : Int} {nd : RNd} {t : RT} {r : List UInt8} (hX : X = .ok (t, r)) (hr : r <:+ s.data.toList) (ha : a = ((s.size - r.length : Nat) : Int)) (ht : TreeM w' (fun k => w.heap.size ≤ k) t nd) (hb : Below w.heap.size w w') : AxPost s dp bd d X w (.returned (.tuple #[rsv s a dp 0 bd, nd.val])) w' :=
  ⟨⟨a, 0, bd, nd, rfl, by omega, by have := hr.length_le; simp at this; omega, .inl ⟨t, r, hX, hr, ha, rfl, rfl, ht⟩⟩, hb⟩
theorem AxPost.no {s : ByteArray} {dp bd : Int} {d : Nat} {X : PR RT} {w w' : World} {a b' : Int} {nd : RNd} {n0 k : Nat} (hX : X = .error (n0, k)) (hk : k = 9 ∨ k = 14) (hn : n0 ≤ s.size) (ha : 0 ≤ a) (ha2 : a ≤ (s.size : Int) + 4 + d) (hb' : b' = ((s.size - n0 : Nat) : Int)) (hb : Below w.heap.size w w') : AxPost s dp bd d X w (.returned (.tuple #[rsv s a dp (k : Int) b', nd.val])) w' :=
  ⟨⟨a, k, b', nd, rfl, ha, ha2, .inr ⟨n0, k, hX, hk, hn, rfl, hb'⟩⟩, hb⟩
theorem sconv_one (c : UInt8) (n : Int) (hn : n = c.toNat) (a : Addr) (w : World) (h : w.cell? a = some (.int .u8 n)) : (convert 130 9 (.slice (some a) 1 1)).run Tryd.prog w = .ok (.string ⟨#[c]⟩) w := by
  refine run_convert_bytes_back (P := Tryd.prog) _ 130 9 5 _ 1 [c] Tryd.underlying130 Tryd.underlying5 Tryd.underlying9 ?_
  intro j hj
  obtain rfl : j = 0 := by simpa using hj
  rw [show a.add 0 = a from by simp [Addr.add], h, hn]
  rfl
/-- Both results, behind a new row and a draw. -/
theorem last_drew {w0 w : World} {s : ByteArray} {a dp er bd : Int} (h : Rs3 w0 s a dp er bd w) (a' dp' er' bd' : Int) (nd : RNd) (o : Obj) :
    Ss (((put2 w0 w s a' dp' er' bd' nd).alloc o).drew) (w0.heap.size + 1) s a' dp' er' bd' ∧ Rsn (((put2 w0 w s a' dp' er' bd' nd).alloc o).drew) (w0.heap.size + 2) nd ∧ Below w0.heap.size w0 (((put2 w0 w s a' dp' er' bd' nd).alloc o).drew) := by
  obtain ⟨h1, h2, h3⟩ := h.last a' dp' er' bd' nd
  have hbb := (Below.refl _ (put2 w0 w s a' dp' er' bd' nd)).alloc (Nat.le_refl _) o
  exact ⟨(h1.keep hbb).drew, (h2.keep hbb).drew, (h3.trans (hbb.mono h3.size)).drew⟩
theorem last2_drew {w0 w : World} {s : ByteArray} {a dp er bd : Int} (h : Rs3 w0 s a dp er bd w) (a' dp' er' bd' : Int) (nd : RNd) :
    Ss ((put2 w0 w s a' dp' er' bd' nd).drew) (w0.heap.size + 1) s a' dp' er' bd' ∧ Rsn ((put2 w0 w s a' dp' er' bd' nd).drew) (w0.heap.size + 2) nd ∧ Below w0.heap.size w0 ((put2 w0 w s a' dp' er' bd' nd).drew) := by
  obtain ⟨h1, h2, h3⟩ := h.last a' dp' er' bd' nd
  exact ⟨h1.drew, h2.drew, h3.drew⟩
theorem tree_put2 {w0 w : World} {s : ByteArray} {a dp er bd : Int} {nd nd' : RNd} {t : RT} {K : Nat} (h : TreeM w (fun k => w0.heap.size + 3 ≤ k ∧ k < K) t nd') : TreeM ((put2 w0 w s a dp er bd nd).drew) (fun k => w0.heap.size ≤ k) t nd' := by
  have h1 : TreeM (put2 w0 w s a dp er bd nd) (fun k => w0.heap.size ≤ k) t nd' := TreeM.kept (fun g hg _ => put2_block _ _ _ _ _ _ _ _ hg.1) (fun g hg _ => by have := hg.1; omega) t nd' h
  generalize put2 w0 w s a dp er bd nd = W at *
  exact TreeM.kept (w := W) (w' := W.drew) (fun _ _ _ => rfl) (fun g hg _ => hg) t nd' h1
/-- Behind the reader of what stands in brackets: the bracket that closes it. -/
def ClX (s : ByteArray) (bd : Int) (d : Nat) (X : PR RT) (w0 w5 : World) (nd : RNd) (a dp er b' : Int) (from' : Int) : Prop :=
  ∃ z er2 b2 : Int, (∀ W, Calls Tryd.prog 35 #[rsv s a dp er b'] W fun r w' => r = .returned (.int .i64 z) ∧ Below W.heap.size W w') ∧
    (z = 41 ∧ er2 = er ∧ b2 = b' ∨ (z == 41) = false ∧ ∀ W, Calls Tryd.prog 56 #[rsv s a dp er b', .int .i64 from', .int .i64 9] W fun r w' => r = .returned (rsv s a dp er2 b2) ∧ Below W.heap.size W w') ∧
    0 ≤ a ∧ a + 1 ≤ (s.size : Int) + 4 + d ∧
    ((∃ t r, X = .ok (t, r) ∧ r <:+ s.data.toList ∧ a + 1 = ((s.size - r.length : Nat) : Int) ∧ er2 = 0 ∧ b2 = bd ∧ TreeM w5 (fun k => w0.heap.size + 3 ≤ k) t nd) ∨
     (∃ n0 k : Nat, X = .error (n0, k) ∧ (k = 9 ∨ k = 14) ∧ n0 ≤ s.size ∧ er2 = (k : Int) ∧ b2 = ((s.size - n0 : Nat) : Int)))
theorem ClX.err {s : ByteArray} {bd : Int} {d : Nat} {X : PR RT} {w0 w5 : World} {nd : RNd} {a dp er b' from' : Int} {n0 k : Nat} (hX : X = .error (n0, k)) (hk : k = 9 ∨ k = 14) (hn : n0 ≤ s.size) (he : er = (k : Int)) (hb : b' = ((s.size - n0 : Nat) : Int)) (ha : 0 ≤ a) (ha2 : a + 1 ≤ (s.size : Int) + 4 + d) : ClX s bd d X w0 w5 nd a dp er b' from' := by
  have he0 : er ≠ 0 := by rcases hk with rfl | rfl <;> (rw [he]; decide)
  refine ⟨-1, er, b', fun W => rsign_err s a dp er b' he0 W, .inr ⟨by decide, fun W => ?_⟩, ha, ha2, .inr ⟨n0, k, hX, hk, hn, he, hb⟩⟩
  have h := sfail_any s a dp er b' from' 9 W
  rw [if_neg he0, if_neg he0] at h
  exact h
/-- What stands in brackets, and the bracket that closes it. -/
theorem grp_eq (d : Nat) (l : List UInt8) : grpR withW notW orW (d + 1) l = (match patR withW notW orW (grpR withW notW orW d) l with
    | .error x => .error x
    | .ok (t, r) => match r with
      | [] => .error (l.length + 1, 9)
      | c :: r2 => if c = 41 then .ok (t, r2) else .error (l.length + 1, 9)) := rfl
theorem grp_zero (l : List UInt8) : grpR withW notW orW 0 l = .error (l.length + 1, 14) := rfl
theorem suffix_drop {s : ByteArray} {r : List UInt8} (h : r <:+ s.data.toList) : r = s.data.toList.drop (s.size - r.length) := by
  have := List.suffix_iff_eq_drop.1 h
  rw [show s.data.toList.length = s.size by simp] at this
  exact this
theorem ClX.of {s : ByteArray} {q dp : Nat} {bd : Int} (hs : s.size ≤ 300) (hq : q < s.size) {d : Nat} {w0 W5 w5 : World} {nd : RNd} {a er b' : Int} (hw : w0.heap.size + 3 ≤ W5.heap.size) (ha0 : 0 ≤ a) (ha1 : a ≤ (s.size : Int) + 4 + d)
    (h : (∃ t r, patR withW notW orW (grpR withW notW orW d) (s.data.toList.drop (q + 1)) = .ok (t, r) ∧ r <:+ s.data.toList ∧ a = ((s.size - r.length : Nat) : Int) ∧ er = 0 ∧ b' = bd ∧ TreeM w5 (fun k => W5.heap.size ≤ k) t nd) ∨
     (∃ n0 k : Nat, patR withW notW orW (grpR withW notW orW d) (s.data.toList.drop (q + 1)) = .error (n0, k) ∧ (k = 9 ∨ k = 14) ∧ n0 ≤ s.size ∧ er = (k : Int) ∧ b' = ((s.size - n0 : Nat) : Int))) :
    ClX s bd (d + 1) (grpR withW notW orW (d + 1) (s.data.toList.drop (q + 1))) w0 w5 nd a ((dp : Int) + 1) er b' (q : Int) := by
  rcases h with ⟨t, r, hX, hr, rfl, rfl, rfl, ht⟩ | ⟨n0, k, hX, hk, hn, he, hb⟩
  · have hrl := hr.length_le
    rw [show s.data.toList.length = s.size by simp] at hrl
    have hrd := suffix_drop hr
    have hsg := rsign_ok s (s.size - r.length) ((dp : Int) + 1) b' (by omega)
    have hlen := rq_len s (q + 1)
    by_cases h41 : r.head? = some 41
    · cases r with
      | nil => cases h41
      | cons c r2 =>
        have hc : c = 41 := Option.some.inj h41
        subst hc
        simp only [List.length_cons] at hrl
        have hz : sgZ s (s.size - (41 :: r2).length) = 41 := by
          have h1 := sg_head s (s.size - (41 :: r2).length) 41
          rw [← hrd] at h1
          have h2 : (sgZ s (s.size - (41 :: r2).length) == 41) = true := h1
          simpa using h2
        rw [hz] at hsg
        refine ⟨41, 0, b', hsg, .inl ⟨rfl, rfl, rfl⟩, by omega, by omega, .inl ⟨t, r2, ?_, (List.suffix_cons 41 r2).trans hr, ?_, rfl, rfl, ht.mono fun g hg => by omega⟩⟩
        · rw [grp_eq, hX]; rfl
        · simp only [List.length_cons]; omega
    · have hz : (sgZ s (s.size - r.length) == 41) = false := by
        have h1 := sg_head s (s.size - r.length) 41
        rw [← hrd] at h1
        exact h1.trans (decide_eq_false h41)
      refine ⟨_, 9, (q : Int), hsg, .inr ⟨hz, fun W => ?_⟩, by omega, by omega, .inr ⟨s.size - q, 9, ?_, .inl rfl, by omega, rfl, by omega⟩⟩
      · have h := sfail_any s ((s.size - r.length : Nat) : Int) ((dp : Int) + 1) 0 b' (q : Int) 9 W
        rw [if_pos rfl, if_pos rfl] at h
        exact h
      · rw [grp_eq, hX]
        cases r with
        | nil =>
          show Except.error ((s.data.toList.drop (q + 1)).length + 1, 9) = _
          rw [hlen]; congr 2; omega
        | cons c r2 =>
          simp only []
          rw [if_neg (fun h => h41 (by rw [h]; rfl)), hlen]; congr 2; omega
  · exact ClX.err (by rw [grp_eq, hX]) hk hn he hb ha0 (by omega)
set_option maxHeartbeats 8000000 in
set_option maxRecDepth 100000 in
theorem satom_any (s : ByteArray) (q dp : Nat) (bd : Int) (hs : s.size ≤ 300) (hq : q < s.size) (h124 : s[q] ≠ 124) (h41 : s[q] ≠ 41) (hdp : dp ≤ 20)
    (HA : ∀ d, d + 1 + dp = 20 → ∀ q', q' ≤ s.size → ∀ W, Calls Tryd.prog 22 #[rsv s (q' : Int) ((dp : Int) + 1) 0 bd] W (AxPost s ((dp : Int) + 1) bd d (patR withW notW orW (grpR withW notW orW d) (s.data.toList.drop q')) W))
    (HE : ∀ a dp er b W, er ≠ 0 → ∃ nd : RNd, Calls Tryd.prog 22 #[rsv s a dp er b] W fun e W' => e = .returned (.tuple #[rsv s a dp er b, nd.val]) ∧ Below W.heap.size W W') (w : World) :
    Calls Tryd.prog 57 #[rsv s (q : Int) (dp : Int) 0 bd] w (AxPost s (dp : Int) bd (20 - dp) (atomX (grpR withW notW orW (20 - dp)) (s.data.toList.drop q)) w) := by
  have CS0 := Lib.hid fun W => rsign_ok s q (dp : Int) bd (by omega) W
  have H0 := Lib.hid (Rs3.start w s (q : Int) (dp : Int) 0 bd 58)
  obtain ⟨x, hx⟩ : ∃ x, s[q] = x := ⟨_, rfl⟩
  have hxl := x.toNat_lt
  have hdr := rq_drop s q hq
  rw [hx] at hdr h124 h41
  have hnx := nextR_at s q hq
  have hsg : sgZ s q = (x.toNat : Int) := by unfold sgZ; rw [dif_pos hq, hx]
  rw [hsg] at CS0
  rw [hdr] at hnx ⊢
  rw [hx] at hnx
  obtain ⟨X, hX⟩ : ∃ X, atomX (grpR withW notW orW (20 - dp)) (x :: s.data.toList.drop (q + 1)) = X := ⟨_, rfl⟩
  rw [hX]
  unfold atomX thingR at hX
  simp only [] at hX
  clear hsg hx hdr
  unfold rsv at CS0
  have hqs : (q : Int) + 1 ≤ (s.size : Int) := by omega
  show Calls Tryd.prog 57 #[.agg #[.string s, .int .i64 (q : Int), .int .i64 (dp : Int), .int .i64 0, .int .i64 bd]] w _
  go_enter Tryd.func57, Tryd.ntmps57
  go_wp2_with fail
  generalize hW : (((w.alloc (.cells #[.string s, .int .i64 (q : Int), .int .i64 (dp : Int), .int .i64 0, .int .i64 bd] 58)).alloc (.cells #[.string ⟨#[]⟩, .int .i64 0, .int .i64 0, .int .i64 0, .int .i64 0] 58)).alloc (.cells #[.int .i64 0, .string ⟨#[]⟩, .slice none 0 0] 30)) = w1 at *
  refine (CS0.out _).mono ?_
  rintro e w2 ⟨rfl, hb2⟩
  have H2 := Lib.hid (H0.out.keep hb2)
  clear hb2 H0 hW CS0
  obtain ⟨c0, c1, c2, c3, c4, f0, f1, f2, f3, f4⟩ := H2.out.rs.own
  have H3 := Lib.hid (H2.out.set1 ((q : Int) + 1))
  go_upto_region 3 with fail
  generalize hw3 : w2.setCell ⟨w.heap.size, 1, none⟩ (.int .i64 ((q : Int) + 1)) = w3 at *
  clear hw3 H2 c0 c1 c2 c3 c4 f0 f1 f2 f3 f4
  obtain ⟨c0, c1, c2, c3, c4, f0, f1, f2, f3, f4⟩ := H3.out.rs.own
  obtain ⟨r0, r1, r2, r3, r4, g0, g1, g2, g3, g4⟩ := H3.out.rs.res
  obtain ⟨n0, n1, n2, k0, k1, k2⟩ := H3.out.nod
  unfold RNd.zero at n0 n1 n2
  have hsf : s.data.toList.drop (q + 1) <:+ s.data.toList := List.drop_suffix _ _
  have hln := rq_len s (q + 1)
  by_cases e40 : x = 40
  · subst e40
    have hX : grpR withW notW orW (20 - dp) (s.data.toList.drop (q + 1)) = X := hX
    clear hnx h124 h41
    have hd21 : (dp : Int) + 1 ≤ 21 := by omega
    have H4 := Lib.hid (H3.out.set2 ((dp : Int) + 1))
    clear r0 r1 r2 r3 r4 g0 g1 g2 g3 g4 n0 n1 n2 k0 k1 k2
    by_cases hd : dp = 20
    · have hX : Except.error ((s.data.toList.drop (q + 1)).length + 1, 14) = X := by rw [← hX, show 20 - dp = 0 by omega, grp_zero]
      rw [hln, show s.size - (q + 1) + 1 = s.size - q by omega] at hX
      have hbg : 20 < (dp : Int) + 1 := by omega
      have hdd : Hid (20 - dp = 0) := Lib.hid (by omega)
      clear hd
      have CF := Lib.hid fun W => sfail_any s ((q : Int) + 1) ((dp : Int) + 1) 0 bd (q : Int) 14 W
      rw [if_pos rfl, if_pos rfl] at CF
      unfold rsv at CF
      have HX := Lib.hid hX
      clear HA hX
      go_wp2_with fail
      refine (CF.out _).mono ?_
      rintro e wf ⟨rfl, hbf⟩
      have Hf := Lib.hid (H4.out.keep hbf)
      clear hbf H3 H4 c0 c1 c2 c3 c4 f0 f1 f2 f3 f4 CF
      obtain ⟨c0, c1, c2, c3, c4, f0, f1, f2, f3, f4⟩ := Hf.out.rs.own
      have H4 := Hf.out.put ((q : Int) + 1) ((dp : Int) + 1) 14 (q : Int)
      go_upto_region 9 with fail
      unfold putS at H4
      generalize hwp : ((((wf.setCell ⟨w.heap.size, 0, none⟩ (.string s)).setCell ⟨w.heap.size, 1, none⟩ (.int .i64 ((q : Int) + 1))).setCell ⟨w.heap.size, 2, none⟩ (.int .i64 ((dp : Int) + 1))).setCell ⟨w.heap.size, 3, none⟩ (.int .i64 14)).setCell ⟨w.heap.size, 4, none⟩ (.int .i64 (q : Int)) = wp at *
      clear hwp Hf c0 c1 c2 c3 c4 f0 f1 f2 f3 f4
      have H4 := Lib.hid H4
      obtain ⟨c0, c1, c2, c3, c4, f0, f1, f2, f3, f4⟩ := H4.out.rs.own
      obtain ⟨nd, hnd⟩ := HE ((q : Int) + 1) ((dp : Int) + 1) 14 (q : Int) wp (by decide)
      unfold rsv RNd.val at hnd
      have CA := Lib.hid hnd
      clear HE hnd
      have HCl : ∀ w5, Hid (ClX s bd (20 - dp) X w w5 nd ((q : Int) + 1) ((dp : Int) + 1) 14 (q : Int) (q : Int)) := fun w5 => Lib.hid (ClX.err (k := 14) HX.out.symm (.inr rfl) (by omega) rfl (by omega) (by omega) (by have := hdd.out; omega))
      go_wp2_with fail
      refine CA.out.mono ?_
      rintro e w5 ⟨rfl, hb5⟩
      have H5 := Lib.hid (H4.out.keep hb5)
      have HCl := HCl w5
      clear hb5 H4 c0 c1 c2 c3 c4 f0 f1 f2 f3 f4 CA
      have hlt5 := H5.out.size
      obtain ⟨z, er2, b2, hCs, hCf, ha0, ha1, hfin⟩ := HCl.out
      have HCS := Lib.hid hCs
      have HFIN := Lib.hid hfin
      unfold rsv at HCS
      clear hCs hfin HCl
      have hb1 := (Below.refl _ w5).alloc (Nat.le_refl _) (.cells #[.string s, .int .i64 ((q : Int) + 1), .int .i64 ((dp : Int) + 1), .int .i64 14, .int .i64 (q : Int)] 58)
      have hb2 := hb1.alloc (by simp) (.cells #[.int .i64 nd.op, .string nd.set, .slice nd.kp nd.kn nd.kc] 30)
      have hS6 := (Ss.new w5 58 s ((q : Int) + 1) ((dp : Int) + 1) 14 (q : Int)).keep ((Below.refl _ _).alloc (Nat.le_refl _) (.cells #[.int .i64 nd.op, .string nd.set, .slice nd.kp nd.kn nd.kc] 30))
      have hN6 := Rsn.new (w5.alloc (.cells #[.string s, .int .i64 ((q : Int) + 1), .int .i64 ((dp : Int) + 1), .int .i64 14, .int .i64 (q : Int)] 58)) 30 nd
      rw [show (w5.alloc (.cells #[.string s, .int .i64 ((q : Int) + 1), .int .i64 ((dp : Int) + 1), .int .i64 14, .int .i64 (q : Int)] 58)).heap.size = w5.heap.size + 1 by simp] at hN6
      have H6 := H5.out.keep hb2
      have HT : Hid (∀ W t, Below ((w5.alloc (.cells #[.string s, .int .i64 ((q : Int) + 1), .int .i64 ((dp : Int) + 1), .int .i64 14, .int .i64 (q : Int)] 58)).alloc (.cells #[.int .i64 nd.op, .string nd.set, .slice nd.kp nd.kn nd.kc] 30)).heap.size ((w5.alloc (.cells #[.string s, .int .i64 ((q : Int) + 1), .int .i64 ((dp : Int) + 1), .int .i64 14, .int .i64 (q : Int)] 58)).alloc (.cells #[.int .i64 nd.op, .string nd.set, .slice nd.kp nd.kn nd.kc] 30)) W → TreeM w5 (fun k => w.heap.size + 3 ≤ k) t nd → TreeM W (fun k => w.heap.size + 3 ≤ k ∧ k < w5.heap.size) t nd) := Lib.hid fun W t hB ht => TreeM.kept (fun g _ hl => ((hb2.trans (hB.mono hb2.size)).block g hl)) (fun g h hl => ⟨h, hl⟩) t nd ht
      go_upto_region 10 with fail
      generalize hw6 : (w5.alloc (.cells #[.string s, .int .i64 ((q : Int) + 1), .int .i64 ((dp : Int) + 1), .int .i64 14, .int .i64 (q : Int)] 58)).alloc (.cells #[.int .i64 nd.op, .string nd.set, .slice nd.kp nd.kn nd.kc] 30) = w6 at *
      clear hw6 hb1 hb2 H5
      have HS6 := Lib.hid hS6
      have HN6 := Lib.hid hN6
      have H6 := Lib.hid H6
      clear hS6 hN6
      obtain ⟨c0, c1, c2, c3, c4, -⟩ := HS6.out
      go_wp2_with fail
      refine (HCS.out _).mono ?_
      rintro e w7 ⟨rfl, hb7⟩
      have HS7 := Lib.hid (HS6.out.keep hb7)
      have HN7 := Lib.hid (HN6.out.keep hb7)
      have H7 := Lib.hid (H6.out.keep hb7)
      have HB7 := Lib.hid hb7
      clear hb7 HS6 HN6 H6 c0 c1 c2 c3 c4
      go_upto_if 41 with fail
      go_cut [5] (fun v5 wx => v5 = .int .i64 (q : Int) ∧ Hid (Ss wx w5.heap.size s ((q : Int) + 1) ((dp : Int) + 1) er2 b2) ∧ Hid (Rsn wx (w5.heap.size + 1) nd) ∧ Hid (Rs3 w s ((q : Int) + 1) ((dp : Int) + 1) 14 (q : Int) wx) ∧ Hid (∀ t, TreeM w5 (fun k => w.heap.size + 3 ≤ k) t nd → TreeM wx (fun k => w.heap.size + 3 ≤ k ∧ k < w5.heap.size) t nd))
      case first =>
        rcases hCf with ⟨rfl, rfl, rfl⟩ | ⟨hz, hf⟩
        · go_wp2_with fail
          go_meet
          exact ⟨rfl, HS7, HN7, H7, Lib.hid fun t ht => HT.out _ t HB7.out ht⟩
        · have hzn : (z != 41) = true := by unfold bne; rw [hz]; rfl
          have HF := Lib.hid hf
          unfold rsv at HF
          clear hf
          obtain ⟨c0, c1, c2, c3, c4, -⟩ := HS7.out
          go_wp2_with fail
          refine (HF.out _).mono ?_
          rintro e w8 ⟨rfl, hb8⟩
          have HS8 := Lib.hid (HS7.out.keep hb8)
          have HN8 := Lib.hid (HN7.out.keep hb8)
          have H8 := Lib.hid (H7.out.keep hb8)
          have HB8 := Lib.hid (HB7.out.trans (hb8.mono HB7.out.size))
          clear hb8 HS7 HN7 H7 HB7 c0 c1 c2 c3 c4 HF
          obtain ⟨c0, c1, c2, c3, c4, f0, f1, f2, f3, f4⟩ := HS8.out
          have HQ : Hid (Ss (putS w8 w5.heap.size s ((q : Int) + 1) ((dp : Int) + 1) er2 b2) w5.heap.size s ((q : Int) + 1) ((dp : Int) + 1) er2 b2 ∧ Rsn (putS w8 w5.heap.size s ((q : Int) + 1) ((dp : Int) + 1) er2 b2) (w5.heap.size + 1) nd ∧ Rs3 w s ((q : Int) + 1) ((dp : Int) + 1) 14 (q : Int) (putS w8 w5.heap.size s ((q : Int) + 1) ((dp : Int) + 1) er2 b2) ∧ ∀ t, TreeM w5 (fun k => w.heap.size + 3 ≤ k) t nd → TreeM (putS w8 w5.heap.size s ((q : Int) + 1) ((dp : Int) + 1) er2 b2) (fun k => w.heap.size + 3 ≤ k ∧ k < w5.heap.size) t nd) := Lib.hid ⟨HS8.out.put _ _ _ _ _, HN8.out.kept (putS_block (by omega) _ _ _ _ _), H8.out.kept (fun k hk => putS_block (by omega) _ _ _ _ _) (putS_below H8.out.rs.below (by omega) _ _ _ _ _), fun t ht => TreeM.kept (fun g hg _ => putS_block (by omega) _ _ _ _ _) (fun g hg _ => hg) t nd (HT.out _ t HB8.out ht)⟩
          go_wp2_with fail
          go_meet
          exact ⟨rfl, Lib.hid HQ.out.1, Lib.hid HQ.out.2.1, Lib.hid HQ.out.2.2.1, Lib.hid HQ.out.2.2.2⟩
      case rest =>
      obtain ⟨rfl, HS8, HN8, H8, HT8⟩ := hcut
      clear HS7 HN7 H7 HB7 HT hCf
      obtain ⟨c0, c1, c2, c3, c4, f0, f1, f2, f3, f4⟩ := HS8.out
      have ha300 : (q : Int) + 1 ≤ 400 := by omega
      have hdp21 : (dp : Int) ≤ 20 := by omega
      have hQ1 := (HS8.out.set1 ((q : Int) + 1 + 1)).set2 (dp : Int)
      have hbk : ∀ k, k ≠ w5.heap.size → ((wc.setCell ⟨w5.heap.size, 1, none⟩ (.int .i64 ((q : Int) + 1 + 1))).setCell ⟨w5.heap.size, 2, none⟩ (.int .i64 (dp : Int))).heap[k]? = wc.heap[k]? := fun k hk => by rw [Below.heap_setCell _ _ _ _ hk, Below.heap_setCell _ _ _ _ hk]
      have hQ2 : Rsn ((wc.setCell ⟨w5.heap.size, 1, none⟩ (.int .i64 ((q : Int) + 1 + 1))).setCell ⟨w5.heap.size, 2, none⟩ (.int .i64 (dp : Int))) (w5.heap.size + 1) nd := HN8.out.kept (hbk _ (by omega))
      have hQ3 : Rs3 w s ((q : Int) + 1) ((dp : Int) + 1) 14 (q : Int) ((wc.setCell ⟨w5.heap.size, 1, none⟩ (.int .i64 ((q : Int) + 1 + 1))).setCell ⟨w5.heap.size, 2, none⟩ (.int .i64 (dp : Int))) := H8.out.kept (fun k hk => hbk k (by omega)) ((H8.out.rs.below.setCell (p := ⟨w5.heap.size, 1, none⟩) (by show w.heap.size ≤ w5.heap.size; omega) _).setCell (p := ⟨w5.heap.size, 2, none⟩) (by show w.heap.size ≤ w5.heap.size; omega) _)
      have HT9 : Hid (∀ t, TreeM w5 (fun k => w.heap.size + 3 ≤ k) t nd → TreeM ((wc.setCell ⟨w5.heap.size, 1, none⟩ (.int .i64 ((q : Int) + 1 + 1))).setCell ⟨w5.heap.size, 2, none⟩ (.int .i64 (dp : Int))) (fun k => w.heap.size + 3 ≤ k ∧ k < w5.heap.size) t nd) := Lib.hid fun t ht => TreeM.kept (fun g hg _ => hbk g (by omega)) (fun g hg _ => hg) t nd (HT8.out t ht)
      go_upto_region 14 with fail
      generalize hw9 : (wc.setCell ⟨w5.heap.size, 1, none⟩ (.int .i64 ((q : Int) + 1 + 1))).setCell ⟨w5.heap.size, 2, none⟩ (.int .i64 (dp : Int)) = w9 at *
      clear hw9 hbk HS8 HN8 H8 HT8 c0 c1 c2 c3 c4 f0 f1 f2 f3 f4
      obtain ⟨c0, c1, c2, c3, c4, -⟩ := hQ1
      obtain ⟨d0, d1, d2, -⟩ := hQ2
      obtain ⟨r0, r1, r2, r3, r4, g0, g1, g2, g3, g4⟩ := hQ3.rs.res
      obtain ⟨n0, n1, n2, k0, k1, k2⟩ := hQ3.nod
      unfold RNd.zero at n0 n1 n2
      have HQ3 := Lib.hid hQ3
      clear hQ3
      go_region
      all_goals
        have HL := Lib.hid (last2_drew HQ3.out ((q : Int) + 1 + 1) (dp : Int) er2 b2 nd)
        have HT10 : Hid (∀ t, TreeM w5 (fun k => w.heap.size + 3 ≤ k) t nd → TreeM ((put2 w w9 s ((q : Int) + 1 + 1) (dp : Int) er2 b2 nd).drew) (fun k => w.heap.size ≤ k) t nd) := Lib.hid fun t ht => tree_put2 (HT9.out t ht)
        clear HQ3 HT9 c0 c1 c2 c3 c4 d0 d1 d2 r0 r1 r2 r3 r4 g0 g1 g2 g3 g4 n0 n1 n2 k0 k1 k2
        try simp only [Act.put, List.getElem_toArray, List.getElem_cons_succ, List.getElem_cons_zero]
        go_wp2_with fail
        refine bodyPost_ret (v := .tuple #[rsv s ((q : Int) + 1 + 1) (dp : Int) er2 b2, nd.val]) ?_ ?_ ?_
        · exact atom_results _ _ _ _ _ _ _ _ _ _ HL.out.1 HL.out.2.1 rfl rfl
        · rfl
        · rcases HFIN.out with ⟨t, r, hx, hr, ha, rfl, rfl, ht⟩ | ⟨m0, k, hx, hk, hm, rfl, hb⟩
          · exact AxPost.mk hx hr ha (HT10.out t ht) HL.out.2.2
          · exact AxPost.no hx hk hm (by omega) (by omega) hb HL.out.2.2
    · obtain ⟨d, hdd⟩ : ∃ d, 20 - dp = d + 1 := ⟨20 - dp - 1, by omega⟩
      have CA := Lib.hid fun W => HA d (by omega) (q + 1) hq W
      unfold AxPost rsv RNd.val at CA
      rw [show ((q + 1 : Nat) : Int) = (q : Int) + 1 by omega] at CA
      rw [hdd] at hX
      subst hX
      have hnb : ¬ 20 < (dp : Int) + 1 := by omega
      clear HA HE
      go_wp2_with fail
      refine (CA.out _).mono ?_
      rintro e w5 ⟨⟨a, er, b', nd, rfl, ha0', ha1', hab⟩, hb5⟩
      have H5 := Lib.hid (H4.out.keep hb5)
      have HCl := Lib.hid (ClX.of (dp := dp) (w0 := w) hs hq (by have := H4.out.size; simpa using this) ha0' ha1' hab)
      clear hb5 H3 H4 c0 c1 c2 c3 c4 f0 f1 f2 f3 f4 hab ha0' ha1' CA
      have hlt5 := H5.out.size
      obtain ⟨z, er2, b2, hCs, hCf, ha0, ha1, hfin⟩ := HCl.out
      have HCS := Lib.hid hCs
      have HFIN := Lib.hid hfin
      unfold rsv at HCS
      clear hCs hfin HCl
      have hb1 := (Below.refl _ w5).alloc (Nat.le_refl _) (.cells #[.string s, .int .i64 a, .int .i64 ((dp : Int) + 1), .int .i64 er, .int .i64 b'] 58)
      have hb2 := hb1.alloc (by simp) (.cells #[.int .i64 nd.op, .string nd.set, .slice nd.kp nd.kn nd.kc] 30)
      have hS6 := (Ss.new w5 58 s a ((dp : Int) + 1) er b').keep ((Below.refl _ _).alloc (Nat.le_refl _) (.cells #[.int .i64 nd.op, .string nd.set, .slice nd.kp nd.kn nd.kc] 30))
      have hN6 := Rsn.new (w5.alloc (.cells #[.string s, .int .i64 a, .int .i64 ((dp : Int) + 1), .int .i64 er, .int .i64 b'] 58)) 30 nd
      rw [show (w5.alloc (.cells #[.string s, .int .i64 a, .int .i64 ((dp : Int) + 1), .int .i64 er, .int .i64 b'] 58)).heap.size = w5.heap.size + 1 by simp] at hN6
      have H6 := H5.out.keep hb2
      have HT : Hid (∀ W t, Below ((w5.alloc (.cells #[.string s, .int .i64 a, .int .i64 ((dp : Int) + 1), .int .i64 er, .int .i64 b'] 58)).alloc (.cells #[.int .i64 nd.op, .string nd.set, .slice nd.kp nd.kn nd.kc] 30)).heap.size ((w5.alloc (.cells #[.string s, .int .i64 a, .int .i64 ((dp : Int) + 1), .int .i64 er, .int .i64 b'] 58)).alloc (.cells #[.int .i64 nd.op, .string nd.set, .slice nd.kp nd.kn nd.kc] 30)) W → TreeM w5 (fun k => w.heap.size + 3 ≤ k) t nd → TreeM W (fun k => w.heap.size + 3 ≤ k ∧ k < w5.heap.size) t nd) := Lib.hid fun W t hB ht => TreeM.kept (fun g _ hl => ((hb2.trans (hB.mono hb2.size)).block g hl)) (fun g h hl => ⟨h, hl⟩) t nd ht
      go_upto_region 10 with fail
      generalize hw6 : (w5.alloc (.cells #[.string s, .int .i64 a, .int .i64 ((dp : Int) + 1), .int .i64 er, .int .i64 b'] 58)).alloc (.cells #[.int .i64 nd.op, .string nd.set, .slice nd.kp nd.kn nd.kc] 30) = w6 at *
      clear hw6 hb1 hb2 H5
      have HS6 := Lib.hid hS6
      have HN6 := Lib.hid hN6
      have H6 := Lib.hid H6
      clear hS6 hN6
      obtain ⟨c0, c1, c2, c3, c4, -⟩ := HS6.out
      go_wp2_with fail
      refine (HCS.out _).mono ?_
      rintro e w7 ⟨rfl, hb7⟩
      have HS7 := Lib.hid (HS6.out.keep hb7)
      have HN7 := Lib.hid (HN6.out.keep hb7)
      have H7 := Lib.hid (H6.out.keep hb7)
      have HB7 := Lib.hid hb7
      clear hb7 HS6 HN6 H6 c0 c1 c2 c3 c4
      go_upto_if 41 with fail
      go_cut [5] (fun v5 wx => v5 = .int .i64 (q : Int) ∧ Hid (Ss wx w5.heap.size s a ((dp : Int) + 1) er2 b2) ∧ Hid (Rsn wx (w5.heap.size + 1) nd) ∧ Hid (Rs3 w s ((q : Int) + 1) ((dp : Int) + 1) 0 bd wx) ∧ Hid (∀ t, TreeM w5 (fun k => w.heap.size + 3 ≤ k) t nd → TreeM wx (fun k => w.heap.size + 3 ≤ k ∧ k < w5.heap.size) t nd))
      case first =>
        rcases hCf with ⟨rfl, rfl, rfl⟩ | ⟨hz, hf⟩
        · go_wp2_with fail
          go_meet
          exact ⟨rfl, HS7, HN7, H7, Lib.hid fun t ht => HT.out _ t HB7.out ht⟩
        · have hzn : (z != 41) = true := by unfold bne; rw [hz]; rfl
          have HF := Lib.hid hf
          unfold rsv at HF
          clear hf
          obtain ⟨c0, c1, c2, c3, c4, -⟩ := HS7.out
          go_wp2_with fail
          refine (HF.out _).mono ?_
          rintro e w8 ⟨rfl, hb8⟩
          have HS8 := Lib.hid (HS7.out.keep hb8)
          have HN8 := Lib.hid (HN7.out.keep hb8)
          have H8 := Lib.hid (H7.out.keep hb8)
          have HB8 := Lib.hid (HB7.out.trans (hb8.mono HB7.out.size))
          clear hb8 HS7 HN7 H7 HB7 c0 c1 c2 c3 c4 HF
          obtain ⟨c0, c1, c2, c3, c4, f0, f1, f2, f3, f4⟩ := HS8.out
          have HQ : Hid (Ss (putS w8 w5.heap.size s a ((dp : Int) + 1) er2 b2) w5.heap.size s a ((dp : Int) + 1) er2 b2 ∧ Rsn (putS w8 w5.heap.size s a ((dp : Int) + 1) er2 b2) (w5.heap.size + 1) nd ∧ Rs3 w s ((q : Int) + 1) ((dp : Int) + 1) 0 bd (putS w8 w5.heap.size s a ((dp : Int) + 1) er2 b2) ∧ ∀ t, TreeM w5 (fun k => w.heap.size + 3 ≤ k) t nd → TreeM (putS w8 w5.heap.size s a ((dp : Int) + 1) er2 b2) (fun k => w.heap.size + 3 ≤ k ∧ k < w5.heap.size) t nd) := Lib.hid ⟨HS8.out.put _ _ _ _ _, HN8.out.kept (putS_block (by omega) _ _ _ _ _), H8.out.kept (fun k hk => putS_block (by omega) _ _ _ _ _) (putS_below H8.out.rs.below (by omega) _ _ _ _ _), fun t ht => TreeM.kept (fun g hg _ => putS_block (by omega) _ _ _ _ _) (fun g hg _ => hg) t nd (HT.out _ t HB8.out ht)⟩
          go_wp2_with fail
          go_meet
          exact ⟨rfl, Lib.hid HQ.out.1, Lib.hid HQ.out.2.1, Lib.hid HQ.out.2.2.1, Lib.hid HQ.out.2.2.2⟩
      case rest =>
      obtain ⟨rfl, HS8, HN8, H8, HT8⟩ := hcut
      clear HS7 HN7 H7 HB7 HT hCf
      obtain ⟨c0, c1, c2, c3, c4, f0, f1, f2, f3, f4⟩ := HS8.out
      have ha300 : a ≤ 400 := by omega
      have hdp21 : (dp : Int) ≤ 20 := by omega
      have hQ1 := (HS8.out.set1 (a + 1)).set2 (dp : Int)
      have hbk : ∀ k, k ≠ w5.heap.size → ((wc.setCell ⟨w5.heap.size, 1, none⟩ (.int .i64 (a + 1))).setCell ⟨w5.heap.size, 2, none⟩ (.int .i64 (dp : Int))).heap[k]? = wc.heap[k]? := fun k hk => by rw [Below.heap_setCell _ _ _ _ hk, Below.heap_setCell _ _ _ _ hk]
      have hQ2 : Rsn ((wc.setCell ⟨w5.heap.size, 1, none⟩ (.int .i64 (a + 1))).setCell ⟨w5.heap.size, 2, none⟩ (.int .i64 (dp : Int))) (w5.heap.size + 1) nd := HN8.out.kept (hbk _ (by omega))
      have hQ3 : Rs3 w s ((q : Int) + 1) ((dp : Int) + 1) 0 bd ((wc.setCell ⟨w5.heap.size, 1, none⟩ (.int .i64 (a + 1))).setCell ⟨w5.heap.size, 2, none⟩ (.int .i64 (dp : Int))) := H8.out.kept (fun k hk => hbk k (by omega)) ((H8.out.rs.below.setCell (p := ⟨w5.heap.size, 1, none⟩) (by show w.heap.size ≤ w5.heap.size; omega) _).setCell (p := ⟨w5.heap.size, 2, none⟩) (by show w.heap.size ≤ w5.heap.size; omega) _)
      have HT9 : Hid (∀ t, TreeM w5 (fun k => w.heap.size + 3 ≤ k) t nd → TreeM ((wc.setCell ⟨w5.heap.size, 1, none⟩ (.int .i64 (a + 1))).setCell ⟨w5.heap.size, 2, none⟩ (.int .i64 (dp : Int))) (fun k => w.heap.size + 3 ≤ k ∧ k < w5.heap.size) t nd) := Lib.hid fun t ht => TreeM.kept (fun g hg _ => hbk g (by omega)) (fun g hg _ => hg) t nd (HT8.out t ht)
      go_upto_region 14 with fail
      generalize hw9 : (wc.setCell ⟨w5.heap.size, 1, none⟩ (.int .i64 (a + 1))).setCell ⟨w5.heap.size, 2, none⟩ (.int .i64 (dp : Int)) = w9 at *
      clear hw9 hbk HS8 HN8 H8 HT8 c0 c1 c2 c3 c4 f0 f1 f2 f3 f4
      obtain ⟨c0, c1, c2, c3, c4, -⟩ := hQ1
      obtain ⟨d0, d1, d2, -⟩ := hQ2
      obtain ⟨r0, r1, r2, r3, r4, g0, g1, g2, g3, g4⟩ := hQ3.rs.res
      obtain ⟨n0, n1, n2, k0, k1, k2⟩ := hQ3.nod
      unfold RNd.zero at n0 n1 n2
      have HQ3 := Lib.hid hQ3
      clear hQ3
      go_region
      all_goals
        have HL := Lib.hid (last2_drew HQ3.out (a + 1) (dp : Int) er2 b2 nd)
        have HT10 : Hid (∀ t, TreeM w5 (fun k => w.heap.size + 3 ≤ k) t nd → TreeM ((put2 w w9 s (a + 1) (dp : Int) er2 b2 nd).drew) (fun k => w.heap.size ≤ k) t nd) := Lib.hid fun t ht => tree_put2 (HT9.out t ht)
        clear HQ3 HT9 c0 c1 c2 c3 c4 d0 d1 d2 r0 r1 r2 r3 r4 g0 g1 g2 g3 g4 n0 n1 n2 k0 k1 k2
        try simp only [Act.put, List.getElem_toArray, List.getElem_cons_succ, List.getElem_cons_zero]
        go_wp2_with fail
        refine bodyPost_ret (v := .tuple #[rsv s (a + 1) (dp : Int) er2 b2, nd.val]) ?_ ?_ ?_
        · exact atom_results _ _ _ _ _ _ _ _ _ _ HL.out.1 HL.out.2.1 rfl rfl
        · rfl
        · rcases HFIN.out with ⟨t, r, hx, hr, ha, rfl, rfl, ht⟩ | ⟨m0, k, hx, hk, hm, rfl, hb⟩
          · exact AxPost.mk hx hr ha (HT10.out t ht) HL.out.2.2
          · exact AxPost.no hx hk hm (by omega) (by omega) hb HL.out.2.2
  by_cases e91 : x = 91
  · subst e91
    have hX : setR withW notW orW (s.data.toList.drop (q + 1)) = X := hX
    have CT := Lib.hid fun W => sset_any s (q + 1) (dp : Int) bd hs (by omega) hq W
    rw [hX] at CT
    unfold SePost rsv at CT
    rw [show ((q + 1 : Nat) : Int) = (q : Int) + 1 by omega] at CT
    clear hX hnx HA HE e40
    go_wp2_with fail
    refine (CT.out _).mono ?_
    rintro e w5 ⟨⟨a, er, b', T, rfl, ha0, ha1, hab⟩, hb5⟩
    have H5 := Lib.hid (H3.out.keep hb5)
    clear hb5 H3 c0 c1 c2 c3 c4 f0 f1 f2 f3 f4 r0 r1 r2 r3 r4 g0 g1 g2 g3 g4 n0 n1 n2 k0 k1 k2
    obtain ⟨r0, r1, r2, r3, r4, g0, g1, g2, g3, g4⟩ := H5.out.rs.res
    obtain ⟨n0, n1, n2, k0, k1, k2⟩ := H5.out.nod
    unfold RNd.zero at n0 n1 n2
    have hlt5 := H5.out.size
    have hl1 : w.heap.size + 1 < w5.heap.size := by omega
    have hl2 : w.heap.size + 1 + 1 < w5.heap.size := by omega
    have hl0 : w.heap.size < w5.heap.size := by omega
    have HAB := Lib.hid hab
    clear hab
    obtain ⟨h1, h2, h3⟩ := H5.out.last a (dp : Int) er b' ⟨1, T, none, 0, 0⟩
    have hbb := (Below.refl _ (put2 w w5 s a (dp : Int) er b' ⟨1, T, none, 0, 0⟩)).alloc (Nat.le_refl _) (.cells #[.string s, .int .i64 a, .int .i64 (dp : Int), .int .i64 er, .int .i64 b'] 58)
    have HL := Lib.hid (And.intro (h1.keep hbb) (And.intro (h2.keep hbb) (h3.trans (hbb.mono h3.size))))
    clear h1 h2 h3 hbb
    go_wp2_with fail
    refine bodyPost_ret (v := .tuple #[rsv s a (dp : Int) er b', (⟨1, T, none, 0, 0⟩ : RNd).val]) ?_ rfl ?_
    · exact atom_results _ _ _ _ _ _ _ _ _ _ HL.out.1 HL.out.2.1 rfl rfl
    · rcases HAB.out with ⟨st, r, hx, hr, ha, rfl, rfl, hS⟩ | ⟨m0, hx, hm0, rfl, hb'⟩
      · exact AxPost.mk hx hr ha (TreeM.leaf _ _ 1 st _ hS) HL.out.2.2
      · exact AxPost.no (k := 9) hx (.inl rfl) hm0 ha0 (by omega) hb' HL.out.2.2
  by_cases e46 : x = 46
  · subst e46
    have HX := Lib.hid hX.symm
    clear hX hnx HA HE e40 e91
    have CB := Lib.hid fun W => rbytes_any ⟨#[]⟩ true (by decide) W
    rw [show (⟨#[]⟩ : ByteArray).data.toList = [] from rfl] at CB
    obtain ⟨T, hT⟩ : ∃ T : ByteArray, (⟨(bytesN [] true 256).toArray⟩ : ByteArray) = T := ⟨_, rfl⟩
    have hTs := notB_zero
    rw [hT] at CB hTs
    have HTS := Lib.hid hTs
    clear hT hTs
    go_upto_region 19 with fail
    go_region_with (refine (CB.out _).mono ?_; rintro e w5 ⟨rfl, hb5⟩; have H5 := H3.out.drew.keep hb5; obtain ⟨d0, d1, d2, d3, d4, -⟩ := H5.rs.own; obtain ⟨s0, s1, s2, s3, s4, t0, t1, t2, t3, t4⟩ := H5.rs.res; obtain ⟨m0, m1, m2, l0, l1, l2⟩ := H5.nod; unfold RNd.zero at m0 m1 m2)
    all_goals
      have HL := Lib.hid (H5.last ((q : Int) + 1) (dp : Int) 0 bd ⟨1, T, none, 0, 0⟩)
      clear H5 hb5 d0 d1 d2 d3 d4 s0 s1 s2 s3 s4 t0 t1 t2 t3 t4 m0 m1 m2 l0 l1 l2
      try simp only [Act.put, List.getElem_toArray, List.getElem_cons_succ, List.getElem_cons_zero]
      go_wp2_with fail
      refine bodyPost_ret (v := .tuple #[rsv s ((q : Int) + 1) (dp : Int) 0 bd, (⟨1, T, none, 0, 0⟩ : RNd).val]) ?_ ?_ ?_
      · exact atom_results _ _ _ _ _ _ _ _ _ _ HL.out.1 HL.out.2.1 rfl rfl
      · rfl
      · exact AxPost.mk HX.out hsf (by rw [hln]; omega) (TreeM.leaf _ _ 1 (notW W4.zero) _ HTS.out) HL.out.2.2
  by_cases e94 : x = 94
  · subst e94
    have HX := Lib.hid hX.symm
    clear hX hnx HA HE
    have HL := Lib.hid (H3.out.last ((q : Int) + 1) (dp : Int) 0 bd ⟨7, ⟨#[]⟩, none, 0, 0⟩)
    go_wp2_with fail
    refine bodyPost_ret (v := .tuple #[rsv s ((q : Int) + 1) (dp : Int) 0 bd, (⟨7, ⟨#[]⟩, none, 0, 0⟩ : RNd).val]) ?_ rfl (AxPost.mk HX.out hsf (by rw [hln]; omega) (TreeM.leaf _ _ 7 W4.zero _ (SetIs.no (by decide) _ _)) HL.out.2.2)
    exact atom_results _ _ _ _ _ _ _ _ _ _ HL.out.1 HL.out.2.1 rfl rfl
  by_cases e36 : x = 36
  · subst e36
    have HX := Lib.hid hX.symm
    clear hX hnx HA HE
    have HL := Lib.hid (H3.out.last ((q : Int) + 1) (dp : Int) 0 bd ⟨8, ⟨#[]⟩, none, 0, 0⟩)
    go_wp2_with fail
    refine bodyPost_ret (v := .tuple #[rsv s ((q : Int) + 1) (dp : Int) 0 bd, (⟨8, ⟨#[]⟩, none, 0, 0⟩ : RNd).val]) ?_ rfl (AxPost.mk HX.out hsf (by rw [hln]; omega) (TreeM.leaf _ _ 8 W4.zero _ (SetIs.no (by decide) _ _)) HL.out.2.2)
    exact atom_results _ _ _ _ _ _ _ _ _ _ HL.out.1 HL.out.2.1 rfl rfl
  by_cases e42 : x = 42
  · subst e42
    have HX := Lib.hid hX.symm
    clear hX hnx HA HE e40 e91 e46 e94 e36
    have CF := Lib.hid fun W => sfail_any s ((q : Int) + 1) (dp : Int) 0 bd (q : Int) 9 W
    rw [if_pos rfl, if_pos rfl] at CF
    unfold rsv at CF
    go_wp2_with fail
    refine (CF.out _).mono ?_
    rintro e w5 ⟨rfl, hb5⟩
    have H5 := Lib.hid (H3.out.keep hb5)
    clear hb5 H3 c0 c1 c2 c3 c4 f0 f1 f2 f3 f4 r0 r1 r2 r3 r4 g0 g1 g2 g3 g4 n0 n1 n2 k0 k1 k2
    obtain ⟨r0, r1, r2, r3, r4, g0, g1, g2, g3, g4⟩ := H5.out.rs.res
    obtain ⟨n0, n1, n2, k0, k1, k2⟩ := H5.out.nod
    unfold RNd.zero at n0 n1 n2
    have HL := Lib.hid (H5.out.last ((q : Int) + 1) (dp : Int) 9 (q : Int) RNd.zero)
    go_wp2_with fail
    refine bodyPost_ret (v := .tuple #[rsv s ((q : Int) + 1) (dp : Int) 9 (q : Int), RNd.zero.val]) ?_ rfl (AxPost.no (k := 9) HX.out (.inl rfl) (by rw [hln]; omega) (by omega) (by omega) (by rw [hln]; omega) HL.out.2.2)
    exact atom_results _ _ _ _ _ _ _ _ _ _ HL.out.1 HL.out.2.1 rfl rfl
  by_cases e43 : x = 43
  · subst e43
    have HX := Lib.hid hX.symm
    clear hX hnx HA HE e40 e91 e46 e94 e36
    have CF := Lib.hid fun W => sfail_any s ((q : Int) + 1) (dp : Int) 0 bd (q : Int) 9 W
    rw [if_pos rfl, if_pos rfl] at CF
    unfold rsv at CF
    go_wp2_with fail
    refine (CF.out _).mono ?_
    rintro e w5 ⟨rfl, hb5⟩
    have H5 := Lib.hid (H3.out.keep hb5)
    clear hb5 H3 c0 c1 c2 c3 c4 f0 f1 f2 f3 f4 r0 r1 r2 r3 r4 g0 g1 g2 g3 g4 n0 n1 n2 k0 k1 k2
    obtain ⟨r0, r1, r2, r3, r4, g0, g1, g2, g3, g4⟩ := H5.out.rs.res
    obtain ⟨n0, n1, n2, k0, k1, k2⟩ := H5.out.nod
    unfold RNd.zero at n0 n1 n2
    have HL := Lib.hid (H5.out.last ((q : Int) + 1) (dp : Int) 9 (q : Int) RNd.zero)
    go_wp2_with fail
    refine bodyPost_ret (v := .tuple #[rsv s ((q : Int) + 1) (dp : Int) 9 (q : Int), RNd.zero.val]) ?_ rfl (AxPost.no (k := 9) HX.out (.inl rfl) (by rw [hln]; omega) (by omega) (by omega) (by rw [hln]; omega) HL.out.2.2)
    exact atom_results _ _ _ _ _ _ _ _ _ _ HL.out.1 HL.out.2.1 rfl rfl
  by_cases e63 : x = 63
  · subst e63
    have HX := Lib.hid hX.symm
    clear hX hnx HA HE e40 e91 e46 e94 e36
    have CF := Lib.hid fun W => sfail_any s ((q : Int) + 1) (dp : Int) 0 bd (q : Int) 9 W
    rw [if_pos rfl, if_pos rfl] at CF
    unfold rsv at CF
    go_wp2_with fail
    refine (CF.out _).mono ?_
    rintro e w5 ⟨rfl, hb5⟩
    have H5 := Lib.hid (H3.out.keep hb5)
    clear hb5 H3 c0 c1 c2 c3 c4 f0 f1 f2 f3 f4 r0 r1 r2 r3 r4 g0 g1 g2 g3 g4 n0 n1 n2 k0 k1 k2
    obtain ⟨r0, r1, r2, r3, r4, g0, g1, g2, g3, g4⟩ := H5.out.rs.res
    obtain ⟨n0, n1, n2, k0, k1, k2⟩ := H5.out.nod
    unfold RNd.zero at n0 n1 n2
    have HL := Lib.hid (H5.out.last ((q : Int) + 1) (dp : Int) 9 (q : Int) RNd.zero)
    go_wp2_with fail
    refine bodyPost_ret (v := .tuple #[rsv s ((q : Int) + 1) (dp : Int) 9 (q : Int), RNd.zero.val]) ?_ rfl (AxPost.no (k := 9) HX.out (.inl rfl) (by rw [hln]; omega) (by omega) (by omega) (by rw [hln]; omega) HL.out.2.2)
    exact atom_results _ _ _ _ _ _ _ _ _ _ HL.out.1 HL.out.2.1 rfl rfl
  by_cases e92 : x = 92
  · subst e92
    rw [if_pos rfl] at hnx
    have CE1 := Lib.hid fun W => sesc_any s (q + 1) (dp : Int) bd (by omega) hq W
    unfold EsPost rsv at CE1
    rw [show (((q + 1 : Nat)) : Int) = (q : Int) + 1 by omega, show (q : Int) + 1 + 1 = (q : Int) + 2 by omega, show (q : Int) + 1 - 1 = (q : Int) by omega] at CE1
    have hX2 : (match nextR (92 :: s.data.toList.drop (q + 1)) with | .error x => .error x | .ok (b, r2) => .ok (.mk 1 (withW W4.zero b) [], r2)) = X := hX
    rw [hnx] at hX2
    obtain ⟨o, ho⟩ : ∃ o, escO s (q + 1) = o := ⟨_, rfl⟩
    rw [ho] at CE1 hX2
    have HO := Lib.hid ho
    have HX := Lib.hid hX2
    clear hX hnx HA HE e40 e91 e46 e94 e36 e42 e43 e63 ho hX2
    cases o with
    | none =>
      go_wp2_with fail
      refine (CE1.out _).mono ?_
      rintro e w5 ⟨rfl, hb5⟩
      have H5 := Lib.hid (H3.out.keep hb5)
      clear hb5 H3 c0 c1 c2 c3 c4 f0 f1 f2 f3 f4 r0 r1 r2 r3 r4 g0 g1 g2 g3 g4 n0 n1 n2 k0 k1 k2 CE1
      have hlt5 := H5.out.size
      have hbb := (Below.refl _ w5).alloc (Nat.le_refl _) (.cells #[.string s, .int .i64 ((q : Int) + 2), .int .i64 (dp : Int), .int .i64 9, .int .i64 (q : Int)] 58)
      have H6 := H5.out.keep hbb
      have hs6 := Ss.new w5 58 s ((q : Int) + 2) (dp : Int) 9 (q : Int)
      go_upto_region 30 with fail
      generalize hw6 : w5.alloc (.cells #[.string s, .int .i64 ((q : Int) + 2), .int .i64 (dp : Int), .int .i64 9, .int .i64 (q : Int)] 58) = w6 at *
      have hs6' := hs6
      obtain ⟨d0, d1, d2, d3, d4, -⟩ := hs6
      obtain ⟨r0, r1, r2, r3, r4, g0, g1, g2, g3, g4⟩ := H6.rs.res
      obtain ⟨n0, n1, n2, k0, k1, k2⟩ := H6.nod
      unfold RNd.zero at n0 n1 n2
      have hl5 := hs6'.lt
      have hl6 := H6.size
      have hl0 : w.heap.size + 1 < w6.heap.size := by omega
      have hl1 : w.heap.size + 1 + 1 < w6.heap.size := by omega
      have hl2 : w.heap.size + 2 < w6.heap.size := by omega
      clear hw6 hbb
      have hcv : ∀ (W : World) (a : Addr), W.cell? a = some (.int .u8 0) → (convert 130 9 (.slice (some a) 1 1)).run Tryd.prog W = .ok (.string ⟨#[0]⟩) W := fun W a h => sconv_one 0 _ rfl a W h
      go_region
      all_goals
        have HL := Lib.hid (last_drew H6 ((q : Int) + 2) (dp : Int) 9 (q : Int) ⟨1, ⟨#[0]⟩, none, 0, 0⟩ (.cells #[.int .u8 0] 5))
        clear H6 hs6' d0 d1 d2 d3 d4 r0 r1 r2 r3 r4 g0 g1 g2 g3 g4 n0 n1 n2 k0 k1 k2 hl5 hl6 hl0 hl1 hl2 hcv
        try simp only [Act.put, List.getElem_toArray, List.getElem_cons_succ, List.getElem_cons_zero]
        go_wp2_with fail
        refine bodyPost_ret (v := .tuple #[rsv s ((q : Int) + 2) (dp : Int) 9 (q : Int), (⟨1, ⟨#[0]⟩, none, 0, 0⟩ : RNd).val]) ?_ ?_ ?_
        · exact atom_results _ _ _ _ _ _ _ _ _ _ HL.out.1 HL.out.2.1 rfl rfl
        · rfl
        · exact AxPost.no (k := 9) HX.out.symm (.inl rfl) (by omega) (by omega) (by omega) (by omega) HL.out.2.2
    | some y =>
      go_wp2_with fail
      refine (CE1.out _).mono ?_
      rintro e w5 ⟨rfl, hb5⟩
      have H5 := Lib.hid (H3.out.keep hb5)
      clear hb5 H3 c0 c1 c2 c3 c4 f0 f1 f2 f3 f4 r0 r1 r2 r3 r4 g0 g1 g2 g3 g4 n0 n1 n2 k0 k1 k2 CE1
      have hlt5 := H5.out.size
      have hbb := (Below.refl _ w5).alloc (Nat.le_refl _) (.cells #[.string s, .int .i64 ((q : Int) + 2), .int .i64 (dp : Int), .int .i64 0, .int .i64 bd] 58)
      have H6 := H5.out.keep hbb
      have hs6 := Ss.new w5 58 s ((q : Int) + 2) (dp : Int) 0 bd
      go_upto_region 30 with fail
      generalize hw6 : w5.alloc (.cells #[.string s, .int .i64 ((q : Int) + 2), .int .i64 (dp : Int), .int .i64 0, .int .i64 bd] 58) = w6 at *
      have hs6' := hs6
      obtain ⟨d0, d1, d2, d3, d4, -⟩ := hs6
      obtain ⟨r0, r1, r2, r3, r4, g0, g1, g2, g3, g4⟩ := H6.rs.res
      obtain ⟨n0, n1, n2, k0, k1, k2⟩ := H6.nod
      unfold RNd.zero at n0 n1 n2
      have hl5 := hs6'.lt
      have hl6 := H6.size
      have hl0 : w.heap.size + 1 < w6.heap.size := by omega
      have hl1 : w.heap.size + 1 + 1 < w6.heap.size := by omega
      have hl2 : w.heap.size + 2 < w6.heap.size := by omega
      clear hw6 hbb
      have hcv : ∀ (W : World) (a : Addr), W.cell? a = some (.int .u8 (y.toNat : Int)) → (convert 130 9 (.slice (some a) 1 1)).run Tryd.prog W = .ok (.string ⟨#[y]⟩) W := fun W a h => sconv_one y _ rfl a W h
      go_region
      all_goals
        have HL := Lib.hid (last_drew H6 ((q : Int) + 2) (dp : Int) 0 bd ⟨1, ⟨#[y]⟩, none, 0, 0⟩ (.cells #[.int .u8 (y.toNat : Int)] 5))
        clear H6 hs6' d0 d1 d2 d3 d4 r0 r1 r2 r3 r4 g0 g1 g2 g3 g4 n0 n1 n2 k0 k1 k2 hl5 hl6 hl0 hl1 hl2 hcv
        try simp only [Act.put, List.getElem_toArray, List.getElem_cons_succ, List.getElem_cons_zero]
        go_wp2_with fail
        refine bodyPost_ret (v := .tuple #[rsv s ((q : Int) + 2) (dp : Int) 0 bd, (⟨1, ⟨#[y]⟩, none, 0, 0⟩ : RNd).val]) ?_ ?_ ?_
        · exact atom_results _ _ _ _ _ _ _ _ _ _ HL.out.1 HL.out.2.1 rfl rfl
        · rfl
        · exact AxPost.mk HX.out.symm (List.drop_suffix _ _) (by rw [rq_len]; have := esc_lt HO.out; omega) (TreeM.leaf _ _ 1 (withW W4.zero y) _ (one_text y)) HL.out.2.2
  have hX2 : (match nextR (x :: s.data.toList.drop (q + 1)) with | .error x => .error x | .ok (b, r2) => .ok (.mk 1 (withW W4.zero b) [], r2)) = X := by
    have hs1 : signB x = false := by unfold signB; simp [e42, e43, e63]
    rw [hs1, if_neg e40, if_neg e91, if_neg e46, if_neg e94, if_neg e36] at hX
    exact hX
  rw [hnx, if_neg e92] at hX2
  have HX := Lib.hid hX2
  have b40 : ((x.toNat : Int) == 40) = false := u8_ne2 (c := 40) e40
  have b91 : ((x.toNat : Int) == 91) = false := u8_ne2 (c := 91) e91
  have b46 : ((x.toNat : Int) == 46) = false := u8_ne2 (c := 46) e46
  have b94 : ((x.toNat : Int) == 94) = false := u8_ne2 (c := 94) e94
  have b36 : ((x.toNat : Int) == 36) = false := u8_ne2 (c := 36) e36
  have b42 : ((x.toNat : Int) == 42) = false := u8_ne2 (c := 42) e42
  have b43 : ((x.toNat : Int) == 43) = false := u8_ne2 (c := 43) e43
  have b63 : ((x.toNat : Int) == 63) = false := u8_ne2 (c := 63) e63
  have b92 : ((x.toNat : Int) == 92) = false := u8_ne2 (c := 92) e92
  have hl6 := H3.out.size
  have hl0 : w.heap.size + 1 < w3.heap.size := by omega
  have hl1 : w.heap.size + 1 + 1 < w3.heap.size := by omega
  have hl2 : w.heap.size < w3.heap.size := by omega
  have hcv : ∀ (W : World) (a : Addr), W.cell? a = some (.int .u8 (x.toNat : Int)) → (convert 130 9 (.slice (some a) 1 1)).run Tryd.prog W = .ok (.string ⟨#[x]⟩) W := fun W a h => sconv_one x _ rfl a W h
  clear hX hX2 hnx HA HE e40 e91 e46 e94 e36 e42 e43 e63 e92 h124 h41
  go_upto_region 31 with fail
  go_region
  all_goals
    have HL := Lib.hid (last_drew H3.out ((q : Int) + 1) (dp : Int) 0 bd ⟨1, ⟨#[x]⟩, none, 0, 0⟩ (.cells #[.int .u8 (x.toNat : Int)] 5))
    clear H3 c0 c1 c2 c3 c4 f0 f1 f2 f3 f4 r0 r1 r2 r3 r4 g0 g1 g2 g3 g4 n0 n1 n2 k0 k1 k2 hl6 hl0 hl1 hl2 hcv
    try simp only [Act.put, List.getElem_toArray, List.getElem_cons_succ, List.getElem_cons_zero]
    go_wp2_with fail
    refine bodyPost_ret (v := .tuple #[rsv s ((q : Int) + 1) (dp : Int) 0 bd, (⟨1, ⟨#[x]⟩, none, 0, 0⟩ : RNd).val]) ?_ ?_ ?_
    · exact atom_results _ _ _ _ _ _ _ _ _ _ HL.out.1 HL.out.2.1 rfl rfl
    · rfl
    · exact AxPost.mk HX.out.symm hsf (by rw [hln]; omega) (TreeM.leaf _ _ 1 (withW W4.zero x) _ (one_text x)) HL.out.2.2
end Go.Proofs.YtjjejcgpeefclaaDoor
