/-
  CONTRACTS of the document's own sums and products (scriberef05.Add, Mul) and of the statement's own whole: they are what layer 5 reckons; nothing that was there is written.
-/
import Derived.Test.YtknnaloepkonlaaDoorRef5T
import Derived.Test.YtknnaloepkonlaaDoorNumW4
namespace Go.Proofs.YtknnaloepkonlaaDoor
open Go.RowKit

set_option maxHeartbeats 1000000 in
theorem radd_any (a b : Int) (w : World) (ha : OkN a) (hb : OkN b) :
    Calls Tryd.prog 7 #[.int .i64 a, .int .i64 b] w fun e w' => e = .returned (.int .i64 (clampI (a + b))) ∧ w = w' := by
  unfold OkN at ha hb
  have sza := fun W => rsize_any a W (by omega) (by omega)
  have szb := fun W => rsize_any b W (by omega) (by omega)
  by_cases h1 : a < 0
  · by_cases h2 : b < 0
    · obtain ⟨n, hn⟩ : ∃ n : Nat, (a.natAbs : Int) + (b.natAbs : Int) = n := ⟨a.natAbs + b.natAbs, by omega⟩
      have hnb : (n : Int) ≤ 9223372036854775806 := by omega
      by_cases h3 : (4611686018427387903 : Int) < (n : Int)
      · have HE : Hid ((-4611686018427387903 : Int) = clampI (a + b)) := Lib.hid (by unfold clampI; omega)
        go_enter Tryd.func7, Tryd.ntmps7
        go_wp2_with (first
          | (go_at_call 19; (with_reducible refine (sza _).mono ?_); rintro e w' ⟨rfl, rfl⟩)
          | (go_at_call 19; (with_reducible refine (szb _).mono ?_); rintro e w' ⟨rfl, rfl⟩))
        go_ret
        exact ⟨ret_i HE.out, rfl⟩
      · have HE : Hid (-(n : Int) = clampI (a + b)) := Lib.hid (by unfold clampI; omega)
        go_enter Tryd.func7, Tryd.ntmps7
        go_wp2_with (first
          | (go_at_call 19; (with_reducible refine (sza _).mono ?_); rintro e w' ⟨rfl, rfl⟩)
          | (go_at_call 19; (with_reducible refine (szb _).mono ?_); rintro e w' ⟨rfl, rfl⟩))
        go_ret
        exact ⟨ret_i HE.out, rfl⟩
    · have HE : Hid (a + b = clampI (a + b)) := Lib.hid (by unfold clampI; omega)
      go_enter Tryd.func7, Tryd.ntmps7
      go_wp2
      go_ret
      exact ⟨ret_i HE.out, rfl⟩
  · by_cases h2 : b < 0
    · have HE : Hid (a + b = clampI (a + b)) := Lib.hid (by unfold clampI; omega)
      go_enter Tryd.func7, Tryd.ntmps7
      go_wp2
      go_ret
      exact ⟨ret_i HE.out, rfl⟩
    · obtain ⟨n, hn⟩ : ∃ n : Nat, (a.natAbs : Int) + (b.natAbs : Int) = n := ⟨a.natAbs + b.natAbs, by omega⟩
      have hnb : (n : Int) ≤ 9223372036854775806 := by omega
      by_cases h3 : (4611686018427387903 : Int) < (n : Int)
      · have HE : Hid ((4611686018427387903 : Int) = clampI (a + b)) := Lib.hid (by unfold clampI; omega)
        go_enter Tryd.func7, Tryd.ntmps7
        go_wp2_with (first
          | (go_at_call 19; (with_reducible refine (sza _).mono ?_); rintro e w' ⟨rfl, rfl⟩)
          | (go_at_call 19; (with_reducible refine (szb _).mono ?_); rintro e w' ⟨rfl, rfl⟩))
        go_ret
        exact ⟨ret_i HE.out, rfl⟩
      · have HE : Hid ((n : Int) = clampI (a + b)) := Lib.hid (by unfold clampI; omega)
        go_enter Tryd.func7, Tryd.ntmps7
        go_wp2_with (first
          | (go_at_call 19; (with_reducible refine (sza _).mono ?_); rintro e w' ⟨rfl, rfl⟩)
          | (go_at_call 19; (with_reducible refine (szb _).mono ?_); rintro e w' ⟨rfl, rfl⟩))
        go_ret
        exact ⟨ret_i HE.out, rfl⟩
theorem rwhole_any (n : Int) (w : World) (hn : -9223372036854775808 ≤ n ∧ n ≤ 9223372036854775807) :
    Calls Tryd.prog 12 #[.int .i64 n] w fun e w' => e = .returned (.int .i64 (clampI (n * 1000000))) ∧ w = w' := by
  by_cases h1 : (4611686018427 : Int) < n
  · have HE : Hid ((4611686018427387903 : Int) = clampI (n * 1000000)) := Lib.hid (by unfold clampI; omega)
    go_enter Tryd.func12, Tryd.ntmps12
    go_wp2
    go_ret
    exact ⟨ret_i HE.out, rfl⟩
  · by_cases h2 : n < -4611686018427
    · have HE : Hid ((-4611686018427387903 : Int) = clampI (n * 1000000)) := Lib.hid (by unfold clampI; omega)
      go_enter Tryd.func12, Tryd.ntmps12
      go_wp2
      go_ret
      exact ⟨ret_i HE.out, rfl⟩
    · have HE : Hid (n * 1000000 = clampI (n * 1000000)) := Lib.hid (by unfold clampI; omega)
      go_enter Tryd.func12, Tryd.ntmps12
      go_wp2
      go_ret
      exact ⟨ret_i HE.out, rfl⟩
set_option maxHeartbeats 2000000 in
theorem rmul_any (a b : Int) (w : World) (ha : OkN a) (hb : OkN b) :
    Calls Tryd.prog 10 #[.int .i64 a, .int .i64 b] w fun e w' => e = .returned (.int .i64 (mulI a b)) ∧ Below w.heap.size w w' := by
  have sza := fun W => rsize_any a W (by unfold OkN at ha; omega) (by unfold OkN at ha; omega)
  have szb := fun W => rsize_any b W (by unfold OkN at hb; omega) (by unfold OkN at hb; omega)
  have er : mulI a b = sgnI (!(decide (a < 0) == decide (b < 0))) (min mostN (a.natAbs * b.natAbs / 1000000)) := by
    unfold mulI ratioI sg3
    rw [show decide ((1000000 : Int) < 0) = false from by decide, show (1000000 : Int).natAbs = 1000000 from rfl, Nat.min_comm]
    cases decide (a < 0) <;> cases decide (b < 0) <;> rfl
  obtain ⟨n, hn⟩ : ∃ n, a.natAbs = n := ⟨_, rfl⟩
  obtain ⟨m, hm⟩ : ∃ n, b.natAbs = n := ⟨_, rfl⟩
  have hnb : n ≤ 4611686018427387903 := by unfold OkN at ha; omega
  have hmb : m ≤ 4611686018427387903 := by unfold OkN at hb; omega
  rw [hn] at sza er
  rw [hm] at szb er
  have dg := fun W => refdigits_any n W (by omega)
  have dm := fun W => refdigits_any m W (by omega)
  have dsz : ∀ n, n ≤ 4611686018427387903 → 1 ≤ (⟨(Lib.decDigits n).toArray⟩ : ByteArray).size ∧ (⟨(Lib.decDigits n).toArray⟩ : ByteArray).size ≤ 20 := fun n h => by
    show 1 ≤ (Lib.decDigits n).toArray.size ∧ (Lib.decDigits n).toArray.size ≤ 20
    rw [List.size_toArray, Lib.decDigits_length]
    exact ⟨Lib.nDigits_pos n, Lib.nDigits_le20 n (by omega)⟩
  have tm := fun W => rtimes_any ⟨(Lib.decDigits n).toArray⟩ ⟨(Lib.decDigits m).toArray⟩ W (dsz n hnb) (dsz m hmb) (by simpa using dec_isD n) (by simpa using dec_isD m)
  have hs1 := (dsz n hnb).2
  have hs2 := (dsz m hmb).2
  have hv1 : valD (⟨(Lib.decDigits n).toArray⟩ : ByteArray).data.toList = n := by simpa using dec_val n
  have hv2 : valD (⟨(Lib.decDigits m).toArray⟩ : ByteArray).data.toList = m := by simpa using dec_val m
  rw [hv1, hv2] at tm
  generalize (⟨(Lib.decDigits n).toArray⟩ : ByteArray) = X at *
  generalize (⟨(Lib.decDigits m).toArray⟩ : ByteArray) = Y at *
  have HER := Lib.hid er
  clear er hv1 hv2 dsz ha hb hn hm
  go_enter Tryd.func10, Tryd.ntmps10
  go_wp2_with (first | (go_at_call 19; (with_reducible refine (sza _).mono ?_); rintro e w' ⟨rfl, rfl⟩) | fail)
  refine (dg _).mono ?_
  rintro e w1 ⟨rfl, hb1⟩
  have HB1 := Lib.hid hb1
  clear hb1
  go_wp2_with (first | (go_at_call 19; (with_reducible refine (szb _).mono ?_); rintro e w' ⟨rfl, rfl⟩) | fail)
  refine (dm _).mono ?_
  rintro e w2 ⟨rfl, hb2⟩
  have HB2 := Lib.hid (HB1.out.trans (hb2.mono HB1.out.size))
  clear hb2 HB1
  go_wp2_with fail
  refine (tm _).mono ?_
  rintro e w3 ⟨⟨t, rfl, hts, htd, htv⟩, hb3⟩
  have HB3 := Lib.hid (HB2.out.trans (hb3.mono HB2.out.size))
  clear hb3 HB2
  have hts2 : t.size ≤ 40 := by omega
  have st := fun W => strip_any t W (by omega)
  obtain ⟨Z, hZ⟩ : ∃ Z : ByteArray, (⟨(t.data.toList.dropWhile (· == 48)).toArray⟩ : ByteArray) = Z := ⟨_, rfl⟩
  have hZl : Z.data.toList = t.data.toList.dropWhile (· == 48) := by rw [← hZ]
  rw [hZ] at st
  have hZs : Z.size ≤ 40 := by
    have h1 : Z.data.toList.length = Z.size := by simp
    rw [← h1, hZl]
    have := (List.dropWhile_suffix (l := t.data.toList) (· == (48 : UInt8))).length_le
    have h2 : t.data.toList.length = t.size := by simp
    omega
  have hZd : ∀ x ∈ Z.data.toList, isD x = true := fun x hx => htd x ((List.dropWhile_suffix _).subset (by rw [hZl] at hx; exact hx))
  have hZv : valD Z.data.toList = n * m := by rw [hZl, strip_val]; exact htv
  have HZ := Lib.hid (And.intro hZd hZv)
  clear hZ hZl hZd hZv hts htd htv
  by_cases h6 : Z.size ≤ 6
  · have HE : Hid ((0 : Int) = mulI a b) := Lib.hid (by
      have h1 := valD_lt _ HZ.out.1
      have h2 : Z.data.toList.length = Z.size := by simp
      rw [h2, HZ.out.2] at h1
      have h3 : 10 ^ Z.size ≤ 10 ^ 6 := Nat.pow_le_pow_right (by decide) h6
      have h4 : n * m / 1000000 = 0 := Nat.div_eq_of_lt (Nat.lt_of_lt_of_le h1 h3)
      rw [HER.out, h4]
      unfold sgnI mostN; simp)
    go_wp2_with (go_at_call 21; (with_reducible refine (st _).mono ?_); rintro e w' ⟨rfl, rfl⟩)
    go_ret
    exact ⟨ret_i HE.out, HB3.out⟩
  · obtain ⟨k, hk⟩ : ∃ k, Z.size = k + 6 := ⟨Z.size - 6, by omega⟩
    obtain ⟨U, hU⟩ : ∃ U : ByteArray, Z.extract 0 k = U := ⟨_, rfl⟩
    have hUl : U.data.toList = Z.data.toList.take k := by rw [← hU, ByteArray.data_extract, Array.toList_extract]; simp [List.extract_eq_take_drop]
    have hUs : U.size ≤ 40 := by
      have h1 : U.data.toList.length = U.size := by simp
      have h2 : Z.data.toList.length = Z.size := by simp
      rw [← h1, hUl, List.length_take]; omega
    have hUd : ∀ c ∈ U.data.toList, isD c = true := fun c hc => HZ.out.1 c (List.mem_of_mem_take (by rw [hUl] at hc; exact hc))
    have hUv : valD U.data.toList = n * m / 1000000 := by
      have e : valD Z.data.toList = valD (Z.data.toList.take k) * 10 ^ (Z.data.toList.drop k).length + valD (Z.data.toList.drop k) := by rw [← valD_append, List.take_append_drop]
      have h2 : Z.data.toList.length = Z.size := by simp
      have hl : (Z.data.toList.drop k).length = 6 := by rw [List.length_drop]; omega
      have h3 := valD_lt (Z.data.toList.drop k) fun c hc => HZ.out.1 c (List.mem_of_mem_drop hc)
      rw [hl] at e h3
      rw [HZ.out.2] at e
      rw [hUl, e]
      simp only [show (10 : Nat) ^ 6 = 1000000 from by decide] at h3 ⊢
      omega
    have sg := fun W => rsigned_any (!(decide (a < 0) == decide (b < 0))) U W (by omega) hUd
    rw [hUv] at sg
    have hke : (Z.size : Int) - 6 = (k : Int) := by omega
    have hki : (6 : Int) < (Z.size : Int) := by omega
    clear hUl hUd hUv h6
    go_wp2_with (first
      | (go_at_call 21; (with_reducible refine (st _).mono ?_); rintro e w' ⟨rfl, rfl⟩)
      | (go_at_call 24; (with_reducible refine (sg _).mono ?_); rintro e w' ⟨rfl, rfl⟩))
    go_ret
    exact ⟨ret_i HER.out.symm, HB3.out⟩
end Go.Proofs.YtknnaloepkonlaaDoor
