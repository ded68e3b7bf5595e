/-
  THE WALK of the law SumHex: whatever the two numbers and the text, it returns true and writes to nothing that was there.
-/
import Derived.Test.YtjiehfjpejoeeabSum3
namespace Go.Proofs.Ytjiehfjpejoeeab
open Go.RowKit

theorem hexc_inj : ∀ n, n < 16 → ∀ m, m < 16 → hexc n = hexc m → n = m := by decide
theorem hexc_hex : ∀ n, n < 16 → hexd (hexc n).toNat = true := by decide
theorem hexS_inj {x y : Nat} (hx : x < 4294967296) (hy : y < 4294967296) (h : hexS x = hexS y) : x = y := by
  have h1 : (hexL x).map hexc = (hexL y).map hexc := by
    have := congrArg (fun s : ByteArray => s.data.toList) h
    simpa [hexS] using this
  simp only [hexL, List.map_cons, List.map_nil, List.cons.injEq] at h1
  obtain ⟨h0, h1, h2, h3, h4, h5, h6, h7, _⟩ := h1
  have k0 := hexc_inj _ (by omega) _ (by omega) h0
  have k1 := hexc_inj _ (by omega) _ (by omega) h1
  have k2 := hexc_inj _ (by omega) _ (by omega) h2
  have k3 := hexc_inj _ (by omega) _ (by omega) h3
  have k4 := hexc_inj _ (by omega) _ (by omega) h4
  have k5 := hexc_inj _ (by omega) _ (by omega) h5
  have k6 := hexc_inj _ (by omega) _ (by omega) h6
  have k7 := hexc_inj _ (by omega) _ (by omega) h7
  omega
theorem hexS_size (x : Nat) : (hexS x).size = 8 := rfl
theorem isHexB_hexS (x : Nat) : isHexB (hexS x) = true := by
  have hm (a : Nat) : hexd (hexc (a % 16)).toNat = true := hexc_hex _ (Nat.mod_lt _ (by decide))
  unfold isHexB hexS hexL
  simp [hm]
theorem isHexB_nine {s : ByteArray} (h : s.size = 9) : isHexB s = false := by
  unfold isHexB
  have : s.data.toList.length = 9 := by simpa using h
  rw [this]; simp

/-- What the law's second half compares: the two texts, the two numbers, Check's two answers. -/
theorem hex_facts (x y : Nat) (t : ByteArray) (hx : x < 4294967296) (hy : y < 4294967296) : ∃ b1 b2 : Bool,
    ((hexS x).toList == (hexS y).toList) = b1 ∧ ((x : Int) == (y : Int)) = b1 ∧ ((hexS x).toList == (hexS (Ad.sum t.data.toList)).toList) = b2 ∧ ((checkV (hexS x) t : Int) == 0) = b2 := by
  refine ⟨decide (x = y), decide (hexS x = hexS (Ad.sum t.data.toList)), ?_, ?_, ?_, ?_⟩
  · by_cases h : x = y
    · subst h; simp
    · rw [bytes_ne (fun e => h (hexS_inj hx hy e))]; simp [h]
  · rw [Bool.eq_iff_iff]; simp; omega
  · by_cases h : hexS x = hexS (Ad.sum t.data.toList)
    · rw [← h]; simp
    · rw [bytes_ne h]; simp [h]
  · by_cases h : hexS x = hexS (Ad.sum t.data.toList)
    · simp [checkV, isHexB_hexS, h]
    · simp [checkV, isHexB_hexS, h]

set_option maxHeartbeats 1000000 in
theorem hexlaw_walk (a0 a1 : Int) (a2 : ByteArray) (w0 : (Lit.int .u32 a0).wf = true) (w1 : (Lit.int .u32 a1).wf = true) (w2 : a2.size ≤ maxLen) (w : World) :
    Calls Try.prog 4 #[.int .u32 a0, .int .u32 a1, .string a2] w fun e w' => e = .returned (.bool true) ∧ Below w.heap.size w w' := by
  have hst := cutB_size a2 3000
  have cut := fun w => cut_any a2 3000 w w2 (by omega)
  have CT := Lib.hid cut
  clear cut
  generalize cutB a2 3000 = t at *
  have g0 := bounds_u32 w0
  have g1 := bounds_u32 w1
  obtain ⟨x, rfl⟩ : ∃ x : Nat, a0 = x := ⟨a0.toNat, by omega⟩
  obtain ⟨y, rfl⟩ : ∃ y : Nat, a1 = y := ⟨a1.toNat, by omega⟩
  have hx : x < 4294967296 := by omega
  have hy : y < 4294967296 := by omega
  obtain ⟨b1, b2, e1, e2, e3, e4⟩ := hex_facts x y t hx hy
  have hlx : (hexS x).size = 8 := hexS_size x
  have m1 := maxLen8 t.size (by omega)
  have mx := maxLen8 (hexS x).size (by omega)
  have ls := Ad.sum_lt t.data.toList
  have mo : (hexS (Ad.sum t.data.toList) ++ ({ data := #[48] } : ByteArray)).size ≤ maxLen := maxLen8 _ (by rw [ByteArray.size_append, hexS_size]; decide)
  have NINE : Hid (checkV (hexS (Ad.sum t.data.toList) ++ ({ data := #[48] } : ByteArray)) t = 3) := by
    refine Lib.hid ?_
    unfold checkV
    rw [isHexB_nine (by rw [ByteArray.size_append, hexS_size]; rfl)]
    rfl
  cases b1 <;> cases b2
  all_goals
    go_enter Try.func4, Try.ntmps4
    go_wp2_with fail
    refine (CT.out _).mono ?_
    rintro e w' ⟨rfl, rfl⟩
    go_wp2_with fail
    refine (of_any t _ m1).mono ?_
    rintro e w1 ⟨rfl, hb1⟩
    go_wp2_with fail
    refine (hex_any _ _ ls).mono ?_
    rintro e w2 ⟨rfl, hb2⟩
    have h2 := hb1.trans (hb2.mono hb1.size)
    clear hb1 hb2
    go_wp2_with fail
    refine (awake_any _).mono ?_
    rintro e w3 ⟨rfl, hb3⟩
    have h3 := h2.trans (hb3.mono h2.size)
    clear h2 hb3
    go_wp2_with fail
    refine (hex_any x _ hx).mono ?_
    rintro e w4 ⟨rfl, hb4⟩
    have h4 := h3.trans (hb4.mono h3.size)
    clear h3 hb4
    go_wp2_with fail
    refine (hex_any x _ hx).mono ?_
    rintro e w5 ⟨rfl, hb5⟩
    have h5 := h4.trans (hb5.mono h4.size)
    clear h4 hb5
    go_wp2_with fail
    refine (hex_any y _ hy).mono ?_
    rintro e w6 ⟨rfl, hb6⟩
    have h6 := h5.trans (hb6.mono h5.size)
    clear h5 hb6
    go_wp2_with fail
    refine (hex_any x _ hx).mono ?_
    rintro e w7 ⟨rfl, hb7⟩
    have h7 := h6.trans (hb7.mono h6.size)
    clear h6 hb7
    go_wp2_with fail
    refine (check_any _ t _ mx m1).mono ?_
    rintro e w8 ⟨rfl, hb8⟩
    have h8 := h7.trans (hb8.mono h7.size)
    clear h7 hb8
    go_wp2_with fail
    refine (hex_any x _ hx).mono ?_
    rintro e w9 ⟨rfl, hb9⟩
    have h9 := h8.trans (hb9.mono h8.size)
    clear h8 hb9
    go_wp2_with fail
    refine (check_any _ t _ mo m1).mono ?_
    rintro e w10 ⟨rfl, hb10⟩
    have h10 := h9.trans (hb10.mono h9.size)
    clear h9 hb10
    rw [NINE.out]
    go_wp2_with fail
    go_ret
    exact ⟨rfl, h10⟩
end Go.Proofs.Ytjiehfjpejoeeab
