/-
  MATHEMATICS of layer 7's laws: the conversions that the laws spell, and values one behind the other.
-/
import Derived.Test.YtipcanbeegladaaGreatDoorFmtL
namespace Go.Proofs.YtipcanbeegladaaGreatDoor
open Go.Lib

theorem num1_dec (u : Nat) : num1 (decDigits u) = min u 1001 := by
  induction u using Nat.strongRecOn with
  | ind u ih =>
    by_cases h : u < 10
    · rw [decDigits_one h]
      have e := num1_snoc [] (UInt8.ofNat (48 + u))
      rw [List.nil_append] at e
      have := dig_nat u; rw [show u % 10 = u by omega] at this
      rw [e, this]
      show min (0 * 10 + (48 + u - 48)) 1001 = _
      omega
    · rw [dec_snoc u h, num1_snoc, ih (u / 10) (by omega), dig_nat]; omega
def wdL (w : Nat) : List UInt8 := if w = 0 then [] else decDigits w
def flL (l z : Bool) : List UInt8 := (if l then [45] else []) ++ (if z then [48] else [])
theorem wide_conv (l z : Bool) (w : Nat) (k : UInt8) (hw : w ≤ 100) (hk : k ∈ [(100 : UInt8), 105, 120, 102, 115, 99]) :
    cvOf (flL l z ++ (wdL w ++ [k])) = wideC l z w k ∧ cvT (flL l z ++ (wdL w ++ [k])) = [] ∧ cvE (flL l z ++ (wdL w ++ [k])) = 0 := by
  have hkF : isF k = false ∧ isD k = false ∧ k ≠ 46 ∧ kindL.contains k = true := by
    simp only [List.mem_cons, List.not_mem_nil, or_false] at hk
    rcases hk with rfl | rfl | rfl | rfl | rfl | rfl <;> decide
  obtain ⟨k1, k2, k3, k4⟩ := hkF
  have hflF : ∀ c ∈ flL l z, isF c = true := by
    intro c hc
    unfold flL at hc
    rcases List.mem_append.1 hc with hc | hc
    · cases l
      · simp at hc
      · simp at hc; rw [hc]; decide
    · cases z
      · simp at hc
      · simp at hc; rw [hc]; decide
  have hwd : ∀ c ∈ wdL w, isD c = true := by
    intro c hc; unfold wdL at hc
    split at hc
    · cases hc
    · exact dec_isD w c hc
  have hhead : ∀ c, (wdL w ++ [k]).head? = some c → isF c = false := by
    intro c hc
    by_cases h0 : w = 0
    · rw [show wdL w = [] from by unfold wdL; rw [if_pos h0]] at hc
      simp at hc; rw [← hc]; exact k1
    · obtain ⟨d, t, e, h1, h2⟩ := dec_head w (by omega)
      rw [show wdL w = d :: t from by unfold wdL; rw [if_neg h0, e]] at hc
      simp at hc
      rw [← hc]
      unfold isD at h2
      have h2 := of_decide_eq_true h2
      rw [Bool.eq_false_iff]; intro h
      unfold isF at h
      have : d = 45 ∨ d = 48 ∨ d = 43 ∨ d = 32 := by simpa using h
      rcases this with rfl | rfl | rfl | rfl <;> simp at h1 h2
  have r0 : restF (flL l z ++ (wdL w ++ [k])) = wdL w ++ [k] := dropWhile_all hflF hhead
  have tF : (flL l z ++ (wdL w ++ [k])).takeWhile isF = flL l z := takeWhile_all hflF hhead
  have kd : ∀ c, [k].head? = some c → isD c = false := fun c hc => by simp at hc; rw [← hc]; exact k2
  have r1 : cR1 (flL l z ++ (wdL w ++ [k])) = [k] := by unfold cR1; rw [r0]; exact dropWhile_all hwd kd
  have hW : cW (flL l z ++ (wdL w ++ [k])) = w := by
    unfold cW; rw [r0, takeWhile_all hwd kd]
    unfold wdL; split
    · rename_i h; rw [h]; rfl
    · rw [num1_dec]; omega
  have hd : dotL [k] = false := by unfold dotL; simp [k3]
  have r2 : cR2 (flL l z ++ (wdL w ++ [k])) = [k] := by unfold cR2; rw [r1, hd]; rfl
  have hP : cP (flL l z ++ (wdL w ++ [k])) = 0 := by unfold cP; rw [r1, hd]; rfl
  refine ⟨?_, ?_, ?_⟩
  · unfold cvOf wideC hasF
    rw [tF, hW, hP, r1, hd, r2]
    cases l <;> cases z <;> rfl
  · unfold cvT; rw [r2]; rfl
  · unfold cvE; rw [hW, hP, r2]
    rw [if_neg (by omega), if_pos (by show ([k] : List UInt8).head?.any (kindL.contains ·) = true; exact k4)]
/-- A value, as wide as is told. -/
theorem wide_print (l z : Bool) (w : Nat) (k : UInt8) (v : Va) (hw : w ≤ 100) (hk : k ∈ [(100 : UInt8), 105, 120, 102, 115, 99]) (hv : SmallV v) :
    printL (37 :: (flL l z ++ (wdL w ++ [k]))) [] [v] = (oneL (wideC l z w k) v, 0) := by
  obtain ⟨h1, h2, h3⟩ := wide_conv l z w k hw hk
  have hb := oneL_len (wideC l z w k) v (by show w ≤ 1000; omega) (by show 0 ≤ 1000; omega) hv
  rw [printL_cons, if_neg (by simp), if_neg (by rw [h3]; exact fun h => h rfl), h1, if_neg]
  · rw [h2, if_neg (by show ¬ 4000 < (oneL (wideC l z w k) v).length; omega), printL_nil, if_neg (by show ¬ 4000 < (oneL (wideC l z w k) v).length; omega)]
    rfl
  · show k ≠ 37
    simp only [List.mem_cons, List.not_mem_nil, or_false] at hk
    rcases hk with rfl | rfl | rfl | rfl | rfl | rfl <;> decide
theorem plain_print (k : UInt8) (v : Va) (hk : k ∈ [(100 : UInt8), 105, 120, 102, 115, 99]) (hv : SmallV v) : printL [37, k] [] [v] = (oneL (plainC k) v, 0) :=
  wide_print false false 0 k v (by omega) hk hv

/-! Places. -/
def placeC (n : Nat) : Cv := ⟨false, false, false, false, 0, n, true, 102⟩
theorem place_print (n : Nat) (v : Va) (h1 : 1 ≤ n) (h6 : n ≤ 6) (hv : SmallV v) : printL [37, 46, UInt8.ofNat (48 + n), 102] [] [v] = (oneL (placeC n) v, 0) := by
  have hb := oneL_len (placeC n) v (by show 0 ≤ 1000; omega) (by show n ≤ 1000; omega) hv
  have key : cvOf [46, UInt8.ofNat (48 + n), 102] = placeC n ∧ cvT [46, UInt8.ofNat (48 + n), 102] = [] ∧ cvE [46, UInt8.ofNat (48 + n), 102] = 0 := by
    have : n = 1 ∨ n = 2 ∨ n = 3 ∨ n = 4 ∨ n = 5 ∨ n = 6 := by omega
    rcases this with rfl | rfl | rfl | rfl | rfl | rfl <;> exact ⟨rfl, rfl, rfl⟩
  obtain ⟨k1, k2, k3⟩ := key
  rw [printL_cons, if_neg (by simp), if_neg (by rw [k3]; exact fun h => h rfl), k1, if_neg (by show ¬ (102 : UInt8) = 37; decide), k2]
  rw [if_neg (by show ¬ 4000 < (oneL (placeC n) v).length; omega), printL_nil, if_neg (by show ¬ 4000 < (oneL (placeC n) v).length; omega)]
  rfl
theorem place_head (n : Nat) (v : Va) (h1 : 1 ≤ n) (h6 : n ≤ 6) : (oneL (plainC 102) v).length = (oneL (placeC n) v).length + 6 - n ∧ (oneL (plainC 102) v).take (oneL (placeC n) v).length = oneL (placeC n) v := by
  have hs : (six (v.n.natAbs % 1000000)).length = 6 := six_len _ (Nat.mod_lt _ (by decide))
  have e1 : oneL (placeC n) v = signL (plainC 102) (decide (v.n < 0)) ++ (decDigits (v.n.natAbs / 1000000) ++ 46 :: (six (v.n.natAbs % 1000000)).take n) := by
    unfold oneL
    rw [if_neg (by show ¬ (102 : UInt8) = 115; decide), if_neg (by show ¬ (102 : UInt8) = 99; decide), if_pos (show (placeC n).kind = 102 from rfl)]
    unfold fillL
    show List.replicate (0 - _ - _) 32 ++ _ ++ _ = _
    rw [show ∀ a b : Nat, 0 - a - b = 0 from fun a b => by omega]
    unfold placesL
    rw [show wantP (placeC n) = n from rfl, if_neg (by omega), List.take_append_of_le_length (by omega)]
    simp [signL, placeC, plainC]
  have e2 : oneL (plainC 102) v = signL (plainC 102) (decide (v.n < 0)) ++ (decDigits (v.n.natAbs / 1000000) ++ 46 :: six (v.n.natAbs % 1000000)) := by
    unfold oneL
    rw [if_neg (by show ¬ (102 : UInt8) = 115; decide), if_neg (by show ¬ (102 : UInt8) = 99; decide), if_pos (show (plainC 102).kind = 102 from rfl)]
    unfold fillL
    show List.replicate (0 - _ - _) 32 ++ _ ++ _ = _
    rw [show ∀ a b : Nat, 0 - a - b = 0 from fun a b => by omega]
    unfold placesL
    rw [show wantP (plainC 102) = 6 from rfl, if_neg (by omega), List.take_append_of_le_length (by omega), List.take_of_length_le (by omega)]
    simp [signL, plainC]
  rw [e1, e2]
  constructor
  · simp only [List.length_append, List.length_cons, List.length_take]; omega
  · have hx : six (v.n.natAbs % 1000000) = (six (v.n.natAbs % 1000000)).take n ++ (six (v.n.natAbs % 1000000)).drop n := (List.take_append_drop _ _).symm
    have : signL (plainC 102) (decide (v.n < 0)) ++ (decDigits (v.n.natAbs / 1000000) ++ 46 :: six (v.n.natAbs % 1000000)) = (signL (plainC 102) (decide (v.n < 0)) ++ (decDigits (v.n.natAbs / 1000000) ++ 46 :: (six (v.n.natAbs % 1000000)).take n)) ++ (six (v.n.natAbs % 1000000)).drop n := by
      conv => lhs; rw [hx]
      simp
    rw [this, List.take_left]

/-! Values that are wanting. -/
def pieceF : List UInt8 := [60, 37, 115, 62]
def fmtV : Nat → List UInt8
  | 0 => []
  | n + 1 => fmtV n ++ pieceF
def pieceV (vs : List Va) (n : Nat) : List UInt8 := 60 :: ((vs.getD n noneV).s ++ [62])
def wantV (vs : List Va) : Nat → List UInt8
  | 0 => []
  | n + 1 => wantV vs n ++ pieceV vs n
theorem str_one (v : Va) : oneL (plainC 115) v = v.s := by
  unfold oneL
  rw [if_pos (show (plainC 115).kind = 115 from rfl)]
  unfold fillL
  show List.replicate (0 - _ - _) 32 ++ [] ++ _ = _
  rw [show ∀ a b : Nat, 0 - a - b = 0 from fun a b => by omega]
  simp [strL, plainC]
theorem conv_s (b : List UInt8) : cvOf (115 :: b) = plainC 115 ∧ cvT (115 :: b) = b ∧ cvE (115 :: b) = 0 := by
  have := conv_app (r := [115]) b (by decide)
  rw [show ([115] : List UInt8) ++ b = 115 :: b from rfl] at this
  rw [this.1, this.2.1, this.2.2]
  exact ⟨rfl, rfl, rfl⟩
theorem getD_small {vs : List Va} (h : ∀ v ∈ vs, SmallV v) (n : Nat) : SmallV (vs.getD n noneV) := by
  rw [List.getD_eq_getElem?_getD]
  cases hq : vs[n]? with
  | none => exact ⟨by show 0 ≤ 100; omega, by show 0 < 18446744073709551616; omega⟩
  | some v => exact h v (List.mem_of_getElem? hq)
theorem wantV_len {vs : List Va} (h : ∀ v ∈ vs, SmallV v) : ∀ n, (wantV vs n).length ≤ 102 * n
  | 0 => by simp [wantV]
  | n + 1 => by
    have := wantV_len h n
    have := (getD_small h n).1
    simp only [wantV, pieceV, List.length_append, List.length_cons, List.length_nil]; omega
theorem head_drop (vs : List Va) (n : Nat) : (vs.drop n).headD noneV = vs.getD n noneV := by
  rw [List.getD_eq_getElem?_getD, List.headD_eq_head?_getD, List.head?_drop]
theorem values_go (vs : List Va) (hv : ∀ v ∈ vs, SmallV v) : ∀ n ≤ 30, ∀ b, printL (fmtV n ++ b) [] vs = printL b (wantV vs n) (vs.drop n)
  | 0, _, b => by simp [fmtV, wantV]
  | n + 1, hn, b => by
    have hb := wantV_len hv n
    have h1 := (getD_small hv n).1
    obtain ⟨c1, c2, c3⟩ := conv_s (62 :: b)
    rw [fmtV, List.append_assoc, values_go vs hv n (by omega)]
    show printL (60 :: 37 :: 115 :: 62 :: b) _ _ = _
    rw [printL_cons, if_pos (by decide), printL_cons, if_neg (by simp), if_neg (by simp [c3]), c1, if_neg (by show ¬ (115 : UInt8) = 37; decide), c2, str_one, head_drop]
    rw [if_neg (by simp only [List.length_append, List.length_cons, List.length_nil]; omega)]
    rw [printL_cons, if_pos (by decide), List.tail_drop]
    congr 1
    simp [wantV, pieceV]
theorem values_ok (vs : List Va) (hv : ∀ v ∈ vs, SmallV v) (n : Nat) (hn : n ≤ 30) : printL (fmtV n) [] vs = (wantV vs n, 0) := by
  have := values_go vs hv n hn []
  rw [List.append_nil] at this
  have hl := wantV_len hv n
  rw [this, printL_nil, if_neg (by omega)]
end Go.Proofs.YtipcanbeegladaaGreatDoor
