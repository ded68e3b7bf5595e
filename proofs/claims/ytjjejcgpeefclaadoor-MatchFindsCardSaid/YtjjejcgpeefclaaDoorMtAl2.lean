/-
  CONTRACT of the iterator that layer 10's All hands back.
-/
import Derived.Test.YtjjejcgpeefclaaDoorMqC
import Derived.Test.YtjjejcgpeefclaaDoorRows
import Derived.WalkKit
import Derived.WalkSpells
import Derived.WalkLawsBesides
import Derived.Test.YtjjejcgpeefclaaDoorMfF
import Derived.Test.YtjjejcgpeefclaaDoorMtS
import Derived.Test.YtjjejcgpeefclaaDoorMfM
import Derived.Test.YtjjejcgpeefclaaDoorMtAl
namespace Go.Proofs.YtjjejcgpeefclaaDoor
open Go.RowKit

theorem salt_all (s : ByteArray) (hs : s.size ≤ 300) (bd : Int) : ∀ (D dp : Nat), D + dp = 20 → ∀ q, q ≤ s.size → ∀ W,
    Calls Tryd.prog 22 #[rsv s (q : Int) (dp : Int) 0 bd] W (AxPost s (dp : Int) bd D (altX dp (grpR withW notW orW D) (s.data.toList.drop q)) W) := by
  have HE : ∀ a dp er b W, er ≠ 0 → ∃ nd : RNd, Calls Tryd.prog 22 #[rsv s a dp er b] W fun e W' => e = .returned (.tuple #[rsv s a dp er b, nd.val]) ∧ Below W.heap.size W W' :=
    fun a dp er b W he => ⟨RNd.zero, salt_err s a dp er b he hs W⟩
  intro D
  induction D with
  | zero =>
    intro dp hd q hq W
    obtain rfl : dp = 20 := by omega
    refine salt_any s q 20 bd 0 _ hs hq (by omega) (rg_grpR_len 0) (fun q hq W => ?_) W
    refine scat_any s q 20 bd 0 _ hs hq (by omega) (by omega) (rg_grpR_len 0) (fun q hq h1 h2 W => ?_) W
    exact satom_any s q 20 bd hs hq h1 h2 (by omega) (fun d hd => by omega) HE W
  | succ D ih =>
    intro dp hd q hq W
    have e : 20 - dp = D + 1 := by omega
    refine salt_any s q dp bd (D + 1) _ hs hq (by omega) (rg_grpR_len (D + 1)) (fun q hq W => ?_) W
    refine scat_any s q dp bd (D + 1) _ hs hq (by omega) (by omega) (rg_grpR_len (D + 1)) (fun q hq h1 h2 W => ?_) W
    have h := satom_any s q dp bd hs hq h1 h2 (by omega) (fun d hd2 q' hq' W => ?_) HE W
    · rw [e] at h; exact h
    · obtain rfl : d = D := by omega
      have h := ih (dp + 1) (by omega) q' hq' W
      rw [altX_in (by omega)] at h
      exact h
/-- The whole reader. -/
theorem salt_top (s : ByteArray) (hs : s.size ≤ 300) (W : World) :
    Calls Tryd.prog 22 #[rsv s 0 0 0 0] W (AxPost s 0 0 20 (topR withW notW orW s.data.toList) W) := by
  have h := salt_all s hs 0 20 0 rfl 0 (Nat.zero_le _) W
  rw [altX_top, List.drop_zero] at h
  exact h
end Go.Proofs.YtjjejcgpeefclaaDoor

namespace Go.Proofs.YtjjejcgpeefclaaDoor
open Go.RowKit

theorem rfparse_results (w : World) (t : Nat) (arr : Array Value) (nd : RNd) (x y : Int) (h' : Rsn w t nd) (h2 : arr[2]?.getD undef = (.pointer (some ⟨t, 0, none⟩))) (h3 : arr[3]?.getD undef = .int .i64 x) (h4 : arr[4]?.getD undef = .int .i64 y) :
    (results Tryd.f13 arr).run Tryd.prog w = .ok (.tuple #[nd.val, .int .i64 x, .int .i64 y]) w := by
  obtain ⟨d0, d1, d2, -⟩ := h'
  simp [results, Tryd.results13, go_sem, RNd.val, d0, d1, d2, h2, h3, h4]
theorem pf_last {w w2 : World} {n0 : RNd} (h : Rsn w2 w.heap.size n0) (hb : Below w.heap.size w w2) (n' nd : RNd) (s : ByteArray) (a er b' : Int) {W : World}
    (hW : ((putN w2 w.heap.size n').alloc (.cells #[.string s, .int .i64 a, .int .i64 0, .int .i64 er, .int .i64 b'] 58)).alloc (.cells #[.int .i64 nd.op, .string nd.set, .slice nd.kp nd.kn nd.kc] 30) = W) :
    Rsn W w.heap.size n' ∧ Below w.heap.size w W ∧ (∀ k, w.heap.size < k → k < w2.heap.size → W.heap[k]? = w2.heap[k]?) ∧ W.cell? ⟨w2.heap.size, 3, none⟩ = some (.int .i64 er) ∧ W.cell? ⟨w2.heap.size, 4, none⟩ = some (.int .i64 b') := by
  subst hW
  have h1 := h.put n'
  have hb1 := putN_below hb (Nat.le_refl _) n'
  have hs1 := putN_size w2 w.heap.size n'
  have hk : ∀ k, w.heap.size < k → (putN w2 w.heap.size n').heap[k]? = w2.heap[k]? := fun k hk => putN_block (by omega) _
  generalize putN w2 w.heap.size n' = w3 at *
  have hba := (Below.refl w3.heap.size w3).alloc (Nat.le_refl _) (.cells #[.string s, .int .i64 a, .int .i64 0, .int .i64 er, .int .i64 b'] 58)
  have hbb := hba.alloc (by simp) (.cells #[.int .i64 nd.op, .string nd.set, .slice nd.kp nd.kn nd.kc] 30)
  exact ⟨h1.keep hbb, hb1.trans (hbb.mono hb1.size), fun k h1 h2 => (hbb.block k (by omega)).trans (hk k h1), by rw [← hs1]; simp [go_sem], by rw [← hs1]; simp [go_sem]⟩
/-- What Parse hands back. -/
def PfPost (s : ByteArray) (w : World) (e : Ending) (w' : World) : Prop :=
  (∃ (nd : RNd) (p er : Int), e = .returned (.tuple #[nd.val, .int .i64 p, .int .i64 er]) ∧
    ((300 < s.size ∧ p = 0 ∧ er = 12) ∨
     (s.size ≤ 300 ∧ ∃ t r, topR withW notW orW s.data.toList = .ok (t, r) ∧ p = 0 ∧ er = 0 ∧ TreeM w' (fun k => w.heap.size ≤ k) t nd) ∨
     (s.size ≤ 300 ∧ ∃ n0 k : Nat, topR withW notW orW s.data.toList = .error (n0, k) ∧ (k = 9 ∨ k = 14) ∧ n0 ≤ s.size ∧ er = (k : Int) ∧ p = ((s.size - n0 : Nat) : Int)))) ∧ Below w.heap.size w w'
set_option maxHeartbeats 4000000 in
set_option maxRecDepth 100000 in
theorem rfparse_any (s : ByteArray) (w : World) : Calls Tryd.prog 13 #[.string s] w (PfPost s w) := by
  have H0 := Rsn.new w 30 RNd.zero
  have HB := (Below.refl w.heap.size w).alloc (Nat.le_refl _) (.cells #[.int .i64 0, .string ⟨#[]⟩, .slice none 0 0] 30)
  unfold RNd.zero at H0
  dsimp only at H0
  by_cases hs : s.size ≤ 300
  · have hsI : (s.size : Int) ≤ 300 := by omega
    have HC := Lib.hid (fun W => salt_top s hs W)
    have HS := Lib.hid hs
    unfold AxPost rsv RNd.val at HC
    clear hs
    go_enter Tryd.func13, Tryd.ntmps13
    go_upto_region 1 with fail
    generalize w.alloc (.cells #[.int .i64 0, .string ⟨#[]⟩, .slice none 0 0] 30) = w1 at *
    have H1 := Lib.hid H0
    have HB1 := Lib.hid HB
    clear H0 HB
    go_wp2_with fail
    refine (HC.out _).mono ?_
    rintro e w2 ⟨⟨a, er, b', nd, rfl, -, -, hab⟩, hb2⟩
    have H2 := Lib.hid (H1.out.keep hb2)
    have HB2 := Lib.hid (HB1.out.trans (hb2.mono HB1.out.size))
    have h12 : w1.heap.size ≤ w2.heap.size := hb2.size
    have hl1 := H1.out.lt
    have hl0 : w.heap.size < w2.heap.size := by omega
    have HAB := Lib.hid hab
    clear hab hb2 HC H1 HB1
    obtain ⟨n0, n1, n2, k0, k1, k2⟩ := H2.out
    by_cases he : er = 0
    · subst he
      have HT : Hid (∃ t r, topR withW notW orW s.data.toList = .ok (t, r) ∧ TreeM w2 (fun k => w1.heap.size ≤ k) t nd) := Lib.hid (by
        rcases HAB.out with ⟨t, r, h1, -, -, -, -, h6⟩ | ⟨n0, k, -, hk, -, he, -⟩
        · exact ⟨t, r, h1, h6⟩
        · rcases hk with rfl | rfl <;> cases he)
      clear HAB
      obtain ⟨W, hW⟩ : ∃ W, ((putN w2 w.heap.size nd).alloc (.cells #[.string s, .int .i64 a, .int .i64 0, .int .i64 0, .int .i64 b'] 58)).alloc (.cells #[.int .i64 nd.op, .string nd.set, .slice nd.kp nd.kn nd.kc] 30) = W := ⟨_, rfl⟩
      have HL := Lib.hid (pf_last H2.out HB2.out nd nd s a 0 b' hW)
      unfold putN at hW
      go_wp2_with fail
      refine bodyPost_ret (v := .tuple #[nd.val, .int .i64 0, .int .i64 0]) ?_ rfl ?_
      · exact rfparse_results _ _ _ _ _ _ HL.out.1 rfl rfl rfl
      · obtain ⟨t, r, h1, h2⟩ := HT.out
        refine ⟨⟨nd, 0, 0, rfl, .inr (.inl ⟨HS.out, t, r, h1, rfl, rfl, ?_⟩)⟩, HL.out.2.1⟩
        exact TreeM.kept (fun k hk hl => HL.out.2.2.1 k (by omega) hl) (fun k hk _ => by omega) t nd h2
    · have HT : Hid (∃ n0 k : Nat, topR withW notW orW s.data.toList = .error (n0, k) ∧ (k = 9 ∨ k = 14) ∧ n0 ≤ s.size ∧ er = (k : Int) ∧ b' = ((s.size - n0 : Nat) : Int)) := Lib.hid (by
        rcases HAB.out with ⟨t, r, -, -, -, h, -, -⟩ | h
        · exact absurd h he
        · exact h)
      have hen : (er != 0) = true := by simpa using he
      clear HAB he
      obtain ⟨W, hW⟩ : ∃ W, ((putN w2 w.heap.size RNd.zero).alloc (.cells #[.string s, .int .i64 a, .int .i64 0, .int .i64 er, .int .i64 b'] 58)).alloc (.cells #[.int .i64 nd.op, .string nd.set, .slice nd.kp nd.kn nd.kc] 30) = W := ⟨_, rfl⟩
      have HL := Lib.hid (pf_last H2.out HB2.out RNd.zero nd s a er b' hW)
      obtain ⟨l3, l4⟩ := HL.out.2.2.2
      unfold putN RNd.zero at hW
      dsimp only at hW
      go_upto_region 5 with fail
      go_region
      all_goals
        try simp only [Act.put, List.getElem_toArray, List.getElem_cons_succ, List.getElem_cons_zero]
        go_wp2_with fail
        refine bodyPost_ret (v := .tuple #[RNd.zero.val, .int .i64 b', .int .i64 er]) ?_ rfl ?_
        · exact rfparse_results _ _ _ _ _ _ HL.out.1.drew rfl rfl rfl
        · exact ⟨⟨_, _, _, rfl, .inr (.inr ⟨HS.out, HT.out⟩)⟩, HL.out.2.1.drew⟩
  · have hsI : (300 : Int) < (s.size : Int) := by omega
    have HS := Lib.hid hs
    have H1 := Lib.hid H0
    have HB1 := Lib.hid HB
    clear hs H0 HB
    go_enter Tryd.func13, Tryd.ntmps13
    go_wp2_with fail
    refine bodyPost_ret (v := .tuple #[RNd.zero.val, .int .i64 0, .int .i64 12]) ?_ rfl ?_
    · exact rfparse_results _ _ _ _ _ _ H1.out rfl rfl rfl
    · exact ⟨⟨_, _, _, rfl, .inl ⟨by have := HS.out; omega, rfl, rfl⟩⟩, HB1.out⟩
end Go.Proofs.YtjjejcgpeefclaaDoor

namespace Go.Proofs.YtjjejcgpeefclaaDoor
open Go.RowKit

def cutB (s : ByteArray) (k : Nat) : ByteArray := if k < s.size then s.extract 0 k else s
theorem cutB_size (s : ByteArray) (k : Nat) : (cutB s k).size ≤ k := by
  unfold cutB; split
  · simp; omega
  · omega
set_option maxHeartbeats 400000 in
theorem cut_any (s : ByteArray) (k : Nat) (w : World) (_hs : s.size ≤ maxLen) (_hk : k ≤ 100000) :
    Calls Tryd.prog 11 #[.string s, .int .i64 k] w fun e w' => e = .returned (.string (cutB s k)) ∧ w = w' := by
  unfold maxLen at _hs
  by_cases h : k < s.size
  · have e : cutB s k = s.extract 0 k := by unfold cutB; rw [if_pos h]
    rw [e]
    go_enter Tryd.func11, Tryd.ntmps11
    go_wp2
    go_ret
    exact ⟨rfl, rfl⟩
  · have e : cutB s k = s := by unfold cutB; rw [if_neg h]
    rw [e]
    go_enter Tryd.func11, Tryd.ntmps11
    go_wp2
    go_ret
    exact ⟨rfl, rfl⟩
end Go.Proofs.YtjjejcgpeefclaaDoor

namespace Go.Proofs.YtjjejcgpeefclaaDoor
open Go.RowKit

theorem patt_any (s0 : ByteArray) (h : s0.size ≤ maxLen) (w : World) : Calls Tryd.prog 10 #[.string s0] w fun e w' => e = .returned (.string (cutB s0 40)) ∧ w = w' := by
  have C0 := Lib.hid (cut_any s0 40 w h (by omega))
  clear h
  go_enter Tryd.func10, Tryd.ntmps10
  go_wp2_with fail
  refine C0.out.mono ?_
  rintro e w1 ⟨rfl, rfl⟩
  go_wp2_with fail
  go_ret
  exact ⟨rfl, rfl⟩
theorem Pg.below {w w' : World} {d : Pd} {t : RT} (h : Pg w d t) (hb : Below w.heap.size w w') : Pg w' d t := h.kept fun k _ hl => hb.block k hl
theorem any_in {s : ByteArray} {t : RT} {r : Option (Nat × Nat)} (h : FdIs s t 0 r) : r.isSome = true ↔ InIs s t := by
  have h : FndIs s t 0 r := by
    unfold FdIs at h
    rw [if_pos ⟨Int.le_refl _, by omega⟩] at h
    exact h
  cases r with
  | none => exact ⟨fun h => (by cases h), fun ⟨i, j, hm⟩ => absurd hm (h i (Nat.zero_le _) j)⟩
  | some q =>
    obtain ⟨i, j⟩ := q
    exact ⟨fun _ => ⟨i, j, h.2.1⟩, fun _ => rfl⟩
def rA : Option (Nat × Nat) → Int | none => 0 | some q => q.1
def rB : Option (Nat × Nat) → Int | none => 0 | some q => q.2
theorem fndV_eq (r : Option (Nat × Nat)) : fndV r = .tuple #[.int .i64 (rA r), .int .i64 (rB r), .bool r.isSome] := by
  cases r with
  | none => rfl
  | some q => obtain ⟨i, j⟩ := q; rfl
set_option maxHeartbeats 8000000 in
set_option maxRecDepth 100000 in
theorem finds_walk (s0 t0 : ByteArray) (fr : Int) (hs : s0.size ≤ maxLen) (ht : t0.size ≤ maxLen) (hfr : -9223372036854775808 ≤ fr ∧ fr ≤ 9223372036854775807) (w : World) (hdz : Dz w) :
    Calls Tryd.prog 3 #[.string s0, .string t0, .int .i64 fr] w fun e w' => e = .returned (.bool true) ∧ Below w.heap.size w w' := by
  have CS := Lib.hid fun Z => patt_any s0 hs Z
  have CT := Lib.hid fun Z => cut_any t0 16 Z ht (by omega)
  have hss := cutB_size s0 40
  have hts := cutB_size t0 16
  generalize cutB s0 40 = s at *
  generalize cutB t0 16 = t at *
  have HDZ := Lib.hid hdz
  have HFR := Lib.hid hfr
  have CAW := Lib.hid fun Z (hz : Dz Z) => mawake_any Z hz
  have CO := Lib.hid (mof_any s (by omega) w hdz)
  have CP := Lib.hid fun Z => rfparse_any s Z
  clear hs ht hdz hfr
  go_enter Tryd.func3, Tryd.ntmps3
  go_wp2_with fail
  refine (CS.out _).mono ?_
  rintro e w1 ⟨rfl, rfl⟩
  go_wp2_with fail
  refine (CT.out _).mono ?_
  rintro e w1 ⟨rfl, rfl⟩
  clear CS CT
  go_wp2_with fail
  refine CO.out.mono ?_
  rintro e w2 ⟨hb2, (⟨tr, r, d, ht, rfl, hpg⟩ | ⟨n, k, ht, hk, hn, rfl⟩)⟩
  · have HB2 := Lib.hid hb2
    have HPG := Lib.hid hpg
    have HT := Lib.hid ht
    clear hb2 hpg ht CO
    go_wp2_with fail
    refine (CP.out _).mono ?_
    rintro e w3 ⟨⟨nd, p, er, rfl, hor⟩, hb3⟩
    have hor : p = 0 ∧ er = 0 ∧ TreeM w3 (fun k => w2.heap.size ≤ k) tr nd := by
      rcases hor with ⟨h, _⟩ | ⟨_, t', r', h1, h2, h3, h4⟩ | ⟨_, n0, k, h1, _⟩
      · omega
      · rw [HT.out] at h1
        cases h1
        exact ⟨h2, h3, h4⟩
      · rw [HT.out] at h1; cases h1
    obtain ⟨rfl, rfl, htm⟩ := hor
    have hsh := top_shp HT.out
    have hfi := top_fine HT.out
    have hsz : sizeN tr ≤ 100000 := by
      have h1 := hfi.2
      have : s.data.toList.length = s.size := by simp
      omega
    obtain ⟨W4, hW4⟩ : ∃ W4, w3.alloc (.cells #[.int .i64 nd.op, .string nd.set, .slice nd.kp nd.kn nd.kc] 30) = W4 := ⟨_, rfl⟩
    have hb4 : Below w3.heap.size w3 W4 := by rw [← hW4]; exact (Below.refl _ _).alloc (Nat.le_refl _) _
    have hx4 : W4.heap[w3.heap.size]? = some (.cells #[.int .i64 nd.op, .string nd.set, .slice nd.kp nd.kn nd.kc] 30 (0, 0)) := by rw [← hW4]; exact mt_heap_new _ _
    have hz4 : W4.heap.size = w3.heap.size + 1 := by rw [← hW4]; simp
    have hb24 : Below w2.heap.size w2 W4 := hb3.trans (hb4.mono hb3.size)
    have HB4 : Hid (Below w.heap.size w W4) := Lib.hid (HB2.out.trans (hb24.mono HB2.out.size))
    have HPG4 := Lib.hid (HPG.out.below hb24)
    have HTM4 : Hid (TreeM W4 (fun k => w2.heap.size ≤ k) tr nd) := Lib.hid (htm.below hb4)
    have HX4 := Lib.hid hx4
    have HW4 := Lib.hid hW4
    have CA4 := Lib.hid (CAW.out W4 HPG4.out.dz)
    have HFI := Lib.hid (And.intro hsh hfi.1)
    obtain ⟨b3, hb3e⟩ : ∃ b3, w3.heap.size = b3 := ⟨_, rfl⟩
    rw [hb3e] at HX4 hz4
    have HZ4 := Lib.hid hz4
    clear hb3 hb4 hx4 hb24 htm hsh hfi hz4 hW4 CP CAW HB2 HPG
    unfold RNd.val
    go_upto_region 4 with fail
    rw [HW4.out]
    try rw [hb3e]
    clear HW4 hb3e
    go_wp2_with fail
    refine CA4.out.mono ?_
    rintro e w5 ⟨rfl, hb5⟩
    have HB5 := Lib.hid (HB4.out.trans (hb5.mono HB4.out.size))
    have HPG5 := Lib.hid (HPG4.out.below hb5)
    have HTM5 := Lib.hid (HTM4.out.below hb5)
    have HX5 := Lib.hid ((hb5.block b3 (by have := HZ4.out; omega)).trans HX4.out)
    have hb3l : b3 < w5.heap.size := by have := HZ4.out; have := hb5.size; omega
    clear hb5 CA4 HB4 HPG4 HTM4 HX4
    have CF := Lib.hid (mFind_any t (by omega) fr HFR.out HPG5.out)
    go_wp2_with fail
    refine CF.out.mono ?_
    rintro e w6 ⟨r1, rfl, hr1, hb6⟩
    have HB6 := Lib.hid (HB5.out.trans (hb6.mono HB5.out.size))
    have HPG6 := Lib.hid (HPG5.out.below hb6)
    have HTM6 := Lib.hid (HTM5.out.below hb6)
    have HX6 := Lib.hid ((hb6.block b3 hb3l).trans HX5.out)
    have hb3m : b3 < w6.heap.size := by have := hb6.size; omega
    have HR1 := Lib.hid hr1
    clear hb6 hr1 CF HB5 HPG5 HTM5 HX5
    rw [fndV_eq]
    have x0 : w6.cell? ⟨b3, 0, none⟩ = some (.int .i64 nd.op) := rg_cell HX6.out
    have x1 : w6.cell? ⟨b3, 1, none⟩ = some (.string nd.set) := rg_cell HX6.out
    have x2 : w6.cell? ⟨b3, 2, none⟩ = some (.slice nd.kp nd.kn nd.kc) := rg_cell HX6.out
    have CF : Hid (Calls Tryd.prog 16 #[.agg #[.int .i64 nd.op, .string nd.set, .slice nd.kp nd.kn nd.kc], .string t, .int .i64 fr] w6 (FdPost t tr fr w6)) := Lib.hid (rFind_any t (by omega) fr HFR.out hsz HFI.out.1 HFI.out.2 HTM6.out)
    go_wp2_with fail
    refine CF.out.mono ?_
    rintro e w7 ⟨r2, rfl, hr2, hb7⟩
    obtain rfl := HR1.out.one hr2
    have HB7 := Lib.hid (HB6.out.trans (hb7.mono HB6.out.size))
    have HPG7 := Lib.hid (HPG6.out.below hb7)
    have HTM7 := Lib.hid (HTM6.out.below hb7)
    have HX7 := Lib.hid ((hb7.block b3 hb3m).trans HX6.out)
    clear hb7 hr2 CF HB6 HPG6 HTM6 HX6 x0 x1 x2
    rw [fndV_eq]
    have x0 : w7.cell? ⟨b3, 0, none⟩ = some (.int .i64 nd.op) := rg_cell HX7.out
    have x1 : w7.cell? ⟨b3, 1, none⟩ = some (.string nd.set) := rg_cell HX7.out
    have x2 : w7.cell? ⟨b3, 2, none⟩ = some (.slice nd.kp nd.kn nd.kc) := rg_cell HX7.out
    have CF : Hid (Calls Tryd.prog 16 #[.agg #[.int .i64 nd.op, .string nd.set, .slice nd.kp nd.kn nd.kc], .string t, .int .i64 0] w7 (FdPost t tr 0 w7)) := Lib.hid (rFind_any t (by omega) 0 (by omega) hsz HFI.out.1 HFI.out.2 HTM7.out)
    go_wp2_with fail
    refine CF.out.mono ?_
    rintro e w8 ⟨r3, rfl, hr3, hb8⟩
    have HB8 := Lib.hid (HB7.out.trans (hb8.mono HB7.out.size))
    have HPG8 := Lib.hid (HPG7.out.below hb8)
    have HR3 := Lib.hid hr3
    clear hb8 hr3 CF HB7 HPG7 HTM7 HX7 x0 x1 x2
    rw [fndV_eq]
    have CI := Lib.hid (mIn_any t (by omega) HPG8.out)
    generalize rA r1 = a1 at *
    generalize rB r1 = a2 at *
    generalize r1.isSome = a3 at *
    go_wp2_with fail
    refine CI.out.mono ?_
    rintro e w9 ⟨b, rfl, hbb, hb9⟩
    have hbe : b = r3.isSome := by
      have h1 := any_in HR3.out
      cases b <;> cases h3 : r3.isSome <;> simp_all
    have HB9 := Lib.hid (HB8.out.trans (hb9.mono HB8.out.size))
    subst hbe
    have hee : ∀ b : Bool, (b == b) = true := fun b => by cases b <;> rfl
    clear hbb hb9 CI
    go_wp2_with fail
    go_ret
    refine ⟨?_, HB9.out⟩
    simp
  · have HB2 := Lib.hid hb2
    have HT := Lib.hid ht
    clear hb2 ht CO
    go_wp2_with fail
    refine (CP.out _).mono ?_
    rintro e w3 ⟨⟨nd, p, er, rfl, hor⟩, hb3⟩
    have hor : p = ((s.size - n : Nat) : Int) ∧ er = (k : Int) := by
      rcases hor with ⟨h, _⟩ | ⟨_, t', r', h1, h2, h3, h4⟩ | ⟨_, n0, k0, h1, _, _, h4, h5⟩
      · omega
      · rw [HT.out] at h1; cases h1
      · rw [HT.out] at h1
        cases h1
        exact ⟨h5, h4⟩
    obtain ⟨rfl, rfl⟩ := hor
    obtain ⟨W4, hW4⟩ : ∃ W4, w3.alloc (.cells #[.int .i64 nd.op, .string nd.set, .slice nd.kp nd.kn nd.kc] 30) = W4 := ⟨_, rfl⟩
    have hb4 : Below w3.heap.size w3 W4 := by rw [← hW4]; exact (Below.refl _ _).alloc (Nat.le_refl _) _
    have HB4 : Hid (Below w.heap.size w W4) := Lib.hid (HB2.out.trans ((hb3.trans (hb4.mono hb3.size)).mono HB2.out.size))
    have HDZ4 : Hid (Dz W4) := Lib.hid (HDZ.out.next HB4.out)
    have CA4 := Lib.hid (CAW.out W4 HDZ4.out)
    have HW4 := Lib.hid hW4
    clear hb3 hb4 hW4 CP CAW HB2
    unfold RNd.val
    go_upto_region 4 with fail
    rw [HW4.out]
    clear HW4
    have hk1 : ((k : Int) != 0) = true := by rcases hk with rfl | rfl <;> rfl
    have hk2 : ((k : Int) == 0) = false := by rcases hk with rfl | rfl <;> rfl
    have HK := Lib.hid hk
    clear hk
    generalize ((s.size - n : Nat) : Int) = q at *
    generalize (k : Int) = kk at *
    go_wp2_with fail
    refine CA4.out.mono ?_
    rintro e w5 ⟨rfl, hb5⟩
    have HB5 := Lib.hid (HB4.out.trans (hb5.mono HB4.out.size))
    clear hb5 CA4
    go_wp2_with fail
    go_ret
    exact ⟨rfl, HB5.out⟩
end Go.Proofs.YtjjejcgpeefclaaDoor

namespace Go.Proofs.YtjjejcgpeefclaaDoor
open Go.RowKit
attribute [local go_sem] Oper.semAt_some

set_option maxHeartbeats 1000000 in
set_option maxRecDepth 100000 in
theorem mAll_seq {s : ByteArray} {t : RT} {d : Pd} {g : Nat} (hs : s.size ≤ 100000) (bs n : Nat) (_hn : 1 ≤ n) :
    SeqR Fence.wide n Tryd.prog 27 #[.pointer (some ⟨bs, 0, none⟩)] encP (AllS s t) (AllP s t) (s.size + 2) (KpS bs d t s g) := by
  intro l J Jx W hK hB hY h0
  have HYm := Lib.hid hY
  have HJB := Lib.hid hB
  have HK0 := Lib.hid hK
  have HJ0 := Lib.hid h0
  have hsi : (s.size : Int) ≤ 100000 := by omega
  clear hY hK h0 hB
  refine callsIn_of_wp Tryd.func27 rfl trivial ?_ rfl
  simp only [Tryd.ntmps27, List.size_toArray, List.length_cons, List.length_nil, Nat.reduceAdd, Nat.reduceSub, Array.replicate_succ, Array.replicate_zero, List.push_toArray, List.append_toArray, List.nil_append, List.cons_append]
  gi_wp2_with fail
  gi_loopw [3, 4] (fun av tv wr => ∃ (a : Nat) (told : Option Nat) (pre : List (Nat × Nat)), a ≤ s.size + 1 ∧ av = .int .i64 (a : Int) ∧ tv = tdV told ∧ Hid (Pth s t pre a told) ∧ Hid (J pre wr) ∧ Hid (KpS bs d t s g wr))
    (fun av _ _ => s.size + 2 - (intOf av).toNat)
  case atStart => exact ⟨0, none, [], Nat.zero_le _, rfl, rfl, Lib.hid .start, HJ0, HK0⟩
  case round =>
    clear HJ0 HK0
    obtain ⟨a, told, pre, ha, rfl, rfl, HP, HJ, HK⟩ := hrel
    have hai : (a : Int) ≤ 100001 := by omega
    obtain ⟨s0, s1, s2, s3, s4⟩ := se_cells HK.out.1
    have CF := Lib.hid (mfind_any s (by omega) HK.out.2 a (Nat.zero_le _) ha)
    unfold seV at CF
    generalize (s.size - 0 + 1) * d.m = R at *
    gi_wp2_with fail
    refine ⟨trivial, (callsIn_wide.2 CF.out).mono ?_⟩
    rintro e w3 ⟨r, rfl, hr, hb3⟩
    have HR := Lib.hid hr
    have HJ3 := Lib.hid (HJB.out pre _ _ HJ.out hb3)
    have HK3 := Lib.hid (HK.out.next hb3)
    clear hr hb3 CF HJ HK s0 s1 s2 s3 s4
    cases r with
    | none =>
      simp only [fndV]
      gi_wp2_with fail
      refine bodyPost_ret (results_none rfl _ _ _) rfl ?_
      exact ⟨⟨_, rfl⟩, HK3.out, .inl ⟨pre, ⟨a, told, HP.out, HR.out⟩, HJ3.out⟩⟩
    | some q =>
      obtain ⟨i, j⟩ := q
      simp only [fndV]
      obtain ⟨f1, f2, f3⟩ := HR.out.facts
      have hiv := HP.out.inv
      have hpl : pre.length < s.size + 2 := by omega
      have hji : (j : Int) ≤ (s.size : Int) := by omega
      have hij : (i : Int) ≤ (j : Int) := by omega
      by_cases hsk : i = j ∧ told = some i
      · obtain ⟨rfl, rfl⟩ := hsk
        have HP2 := Lib.hid (Pth.skip HP.out HR.out)
        have n1 : ¬ (i : Int) < (i : Int) := by omega
        have n2 : ((i : Int) != (i : Int)) = false := by simp
        have n3 : ((i : Int) == (i : Int)) = true := by simp
        clear hiv HR HP
        simp only [tdV]
        gi_wp2_with fail
        refine ⟨⟨i + 1, some i, pre, by omega, by go_num, rfl, HP2, HJ3, HK3⟩, ?_⟩
        simp [intOf]; omega
      · have HP2 := Lib.hid (Pth.take HP.out HR.out hsk)
        obtain ⟨fn, tmps, assign, body, hy, hR⟩ := HYm.out pre (i, j) w3 HJ3.out HK3.out hpl ⟨_, _, HP2.out⟩
        rw [show encP (i, j) = #[.int .i64 (i : Int), .int .i64 (j : Int)] from rfl] at hy
        have HRD := Lib.hid hR
        have hcond : (i : Int) < (j : Int) ∨ (i = j ∧ told ≠ some i) := by
          by_cases h : i < j
          · left; omega
          · right; exact ⟨by omega, fun h2 => hsk ⟨by omega, h2⟩⟩
        clear hR hiv HR HP hsk hpl
        rcases hcond with hlt | ⟨rfl, hne⟩
        · have hne3 : ((i : Int) == (j : Int)) = false := by
            rw [Bool.eq_false_iff]; intro h
            have := eq_of_beq h
            omega
          have hni : i ≠ j := by omega
          rw [if_neg hni] at HP2
          clear hni
          gi_wp2_with fail
          refine HRD.out.mono ?_
          rintro e1 W3 ⟨hk3, (⟨rfl, hJ3⟩ | ⟨rfl, hJ3⟩)⟩
          · have HK4 := Lib.hid hk3
            have HJ4 := Lib.hid hJ3
            clear hk3 hJ3 hy
            gi_wp2_with fail
            refine ⟨⟨j, some j, pre ++ [(i, j)], by omega, rfl, rfl, HP2, HJ4, HK4⟩, ?_⟩
            simp [intOf]; omega
          · have HK4 := Lib.hid hk3
            clear hk3
            gi_wp2_with fail
            refine bodyPost_ret (results_none rfl _ _ _) rfl ?_
            exact ⟨⟨_, rfl⟩, HK4.out, .inr ⟨_, ⟨_, _, HP2.out⟩, hJ3⟩⟩
        · have n1 : ¬ (i : Int) < (i : Int) := by omega
          have n3 : ((i : Int) == (i : Int)) = true := by simp
          obtain ⟨tn, htn, hne2⟩ : ∃ tn : Int, tdV told = .int .i64 tn ∧ ((i : Int) != tn) = true := by
            cases told with
            | none => exact ⟨-1, rfl, by rw [bne_iff_ne]; omega⟩
            | some b => exact ⟨(b : Int), rfl, by rw [bne_iff_ne]; intro h; exact hne (by rw [show b = i from by omega])⟩
          rw [htn]
          rw [if_pos rfl] at HP2
          clear hne htn
          gi_wp2_with fail
          refine HRD.out.mono ?_
          rintro e1 W3 ⟨hk3, (⟨rfl, hJ3⟩ | ⟨rfl, hJ3⟩)⟩
          · have HK4 := Lib.hid hk3
            have HJ4 := Lib.hid hJ3
            clear hk3 hJ3 hy
            gi_wp2_with fail
            refine ⟨⟨i + 1, some i, pre ++ [(i, i)], by omega, by go_num, rfl, HP2, HJ4, HK4⟩, ?_⟩
            simp [intOf]; omega
          · have HK4 := Lib.hid hk3
            clear hk3
            gi_wp2_with fail
            refine bodyPost_ret (results_none rfl _ _ _) rfl ?_
            exact ⟨⟨_, rfl⟩, HK4.out, .inr ⟨_, ⟨_, _, HP2.out⟩, hJ3⟩⟩
end Go.Proofs.YtjjejcgpeefclaaDoor
