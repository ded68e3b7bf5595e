/-
  PLAIN MATHEMATICS for the laws of layer 2 (no program): the two halves of Adler's sum over lists of bytes, how they add up, how two sums are joined, what one changed byte and what two turned bytes do to them.
-/
import Derived.WalkKit
namespace Go.Proofs.YtmlpkimbcjkbkaaGreatDoor.Ad

/-- All bytes added. -/
def sa : List UInt8 → Nat
  | [] => 0
  | c :: l => c.toNat + sa l
/-- Each byte times the number of bytes from it on. -/
def sb : List UInt8 → Nat
  | [] => 0
  | c :: l => (l.length + 1) * c.toNat + sb l

theorem sa_append (l r : List UInt8) : sa (l ++ r) = sa l + sa r := by
  induction l with
  | nil => simp [sa]
  | cons c l ih => simp [sa, ih]; omega
theorem sb_append (l r : List UInt8) : sb (l ++ r) = sb l + r.length * sa l + sb r := by
  induction l with
  | nil => simp [sb, sa]
  | cons c l ih =>
    simp only [List.cons_append, sb, sa, ih, List.length_append, Nat.mul_add, Nat.add_mul]
    omega
theorem sa_le (l : List UInt8) : sa l ≤ 255 * l.length := by
  induction l with
  | nil => simp [sa]
  | cons c l ih => have := c.toNat_lt; simp only [sa, List.length_cons]; omega
theorem sb_le (l : List UInt8) (n : Nat) (h : l.length ≤ n) : sb l ≤ l.length * (255 * n) := by
  induction l with
  | nil => simp [sb]
  | cons c l ih =>
    have hc := c.toNat_lt
    simp only [List.length_cons] at h
    have h1 := ih (by omega)
    have h2 : (l.length + 1) * c.toNat ≤ n * 255 := Nat.mul_le_mul (by omega) (by omega)
    simp only [sb, List.length_cons]
    rw [Nat.add_mul l.length 1 (255 * n)]
    omega
theorem sa_snoc (l : List UInt8) (c : UInt8) : sa (l ++ [c]) = sa l + c.toNat := by simp [sa_append, sa]
theorem sb_snoc (l : List UInt8) (c : UInt8) : sb (l ++ [c]) = sb l + sa l + c.toNat := by simp [sb_append, sb]

/-- The halves behind the bytes l, which began at a and b. -/
def ha (a : Nat) (l : List UInt8) : Nat := (a + sa l) % 65521
def hb (a b : Nat) (l : List UInt8) : Nat := (b + l.length * a + sb l) % 65521
theorem ha_lt (a : Nat) (l : List UInt8) : ha a l < 65521 := Nat.mod_lt _ (by decide)
theorem hb_lt (a b : Nat) (l : List UInt8) : hb a b l < 65521 := Nat.mod_lt _ (by decide)
theorem ha_ha (a : Nat) (l r : List UInt8) : ha (ha a l) r = ha a (l ++ r) := by
  unfold ha; rw [sa_append]; omega
theorem mul_mod_move (k x : Nat) : ∃ z, k * x = k * (x % 65521) + 65521 * z :=
  ⟨k * (x / 65521), by
    have h := Nat.div_add_mod x 65521
    have : k * x = k * (65521 * (x / 65521) + x % 65521) := by rw [h]
    rw [this, Nat.mul_add, Nat.mul_left_comm]; omega⟩
theorem hb_hb (a b : Nat) (l r : List UInt8) : hb (ha a l) (hb a b l) r = hb a b (l ++ r) := by
  unfold hb ha
  rw [sb_append, List.length_append]
  obtain ⟨z, hz⟩ := mul_mod_move r.length (a + sa l)
  rw [Nat.mul_add] at hz
  have e : (l.length + r.length) * a = l.length * a + r.length * a := Nat.add_mul _ _ _
  rw [e]
  generalize r.length * ((a + sa l) % 65521) = P at *
  generalize r.length * a = Q at *
  generalize r.length * sa l = R at *
  omega
theorem ha_nil (a : Nat) (h : a < 65521) : ha a [] = a := by unfold ha; simp [sa]; omega
theorem hb_nil (a b : Nat) (h : b < 65521) : hb a b [] = b := by unfold hb; simp [sb]; omega

/-- The halves, not reduced, behind k bytes. -/
def px (a : Nat) (l : List UInt8) (k : Nat) : Nat := a + sa (l.take k)
def py (a b : Nat) (l : List UInt8) (k : Nat) : Nat := b + k * a + sb (l.take k)
theorem take_snoc (s : ByteArray) (k : Nat) (h : k < s.size) : s.data.toList.take (k + 1) = s.data.toList.take k ++ [s[k]] := by
  rw [List.take_succ_eq_append_getElem (by simpa using h)]; rfl
theorem px_succ (a : Nat) (s : ByteArray) (k : Nat) (h : k < s.size) : px a s.data.toList (k + 1) = px a s.data.toList k + s[k].toNat := by
  unfold px; rw [take_snoc s k h, sa_snoc]; omega
theorem py_succ (a b : Nat) (s : ByteArray) (k : Nat) (h : k < s.size) : py a b s.data.toList (k + 1) = py a b s.data.toList k + px a s.data.toList (k + 1) := by
  unfold py px; rw [take_snoc s k h, sa_snoc, sb_snoc, Nat.add_mul]; omega
theorem px_le (a : Nat) (l : List UInt8) (k : Nat) (hk : k ≤ 1048576) (ha : a < 65521) : px a l k ≤ 267452400 := by
  have h1 := sa_le (l.take k)
  have h2 : (l.take k).length ≤ k := List.length_take_le _ _
  unfold px; omega
theorem py_le (a b : Nat) (l : List UInt8) (k : Nat) (hk : k ≤ 1048576) (ha : a < 65521) (hb : b < 65521) : py a b l k ≤ 281474976710656 * 2 := by
  have h2 : (l.take k).length ≤ 1048576 := Nat.le_trans (List.length_take_le _ _) hk
  have h1 := sb_le (l.take k) 1048576 h2
  have h3 : k * a ≤ 1048576 * 65521 := Nat.mul_le_mul hk (by omega)
  have h4 : (l.take k).length * (255 * 1048576) ≤ 1048576 * (255 * 1048576) := Nat.mul_le_mul h2 (Nat.le_refl _)
  unfold py; omega
theorem px_zero (a : Nat) (l : List UInt8) : px a l 0 = a := by simp [px, sa]
theorem py_zero (a b : Nat) (l : List UInt8) : py a b l 0 = b := by simp [py, sb]
theorem px_end (a : Nat) (l : List UInt8) : px a l l.length % 65521 = ha a l := by simp [px, ha]
theorem py_end (a b : Nat) (l : List UInt8) : py a b l l.length % 65521 = hb a b l := by simp [py, hb]

theorem ha_snoc (a : Nat) (s : ByteArray) (k : Nat) (h : k < s.size) : ha a (s.data.toList.take (k + 1)) = (ha a (s.data.toList.take k) + s[k].toNat) % 65521 := by
  rw [take_snoc s k h, ← ha_ha]; unfold ha; simp [sa]
theorem hb_snoc (a b : Nat) (s : ByteArray) (k : Nat) (h : k < s.size) : hb a b (s.data.toList.take (k + 1)) = (hb a b (s.data.toList.take k) + ha a (s.data.toList.take (k + 1))) % 65521 := by
  rw [take_snoc s k h, ← hb_hb, ← ha_ha]; unfold hb ha; simp [sa, sb]; omega

/-- The sum of bytes, its two halves, as one number. -/
def A (l : List UInt8) : Nat := ha 1 l
def B (l : List UInt8) : Nat := hb 1 0 l
def num (a b : Nat) : Nat := b * 65536 + a
def sum (l : List UInt8) : Nat := num (A l) (B l)
theorem A_lt (l : List UInt8) : A l < 65521 := ha_lt _ _
theorem B_lt (l : List UInt8) : B l < 65521 := hb_lt _ _ _
theorem sum_lt (l : List UInt8) : sum l < 4294967296 := by have := A_lt l; have := B_lt l; unfold sum num; omega
theorem sum_lo (l : List UInt8) : sum l % 65536 = A l := by have := A_lt l; have := B_lt l; unfold sum num; omega
theorem sum_hi (l : List UInt8) : sum l / 65536 = B l := by have := A_lt l; have := B_lt l; unfold sum num; omega
theorem sum_eq (l r : List UInt8) : sum l = sum r ↔ A l = A r ∧ B l = B r := by
  constructor
  · intro h; exact ⟨by rw [← sum_lo, ← sum_lo, h], by rw [← sum_hi, ← sum_hi, h]⟩
  · rintro ⟨h, k⟩; unfold sum; rw [h, k]

/-- Two sums joined, by the two rules. -/
def joinA (x y : Nat) : Nat := (x % 65536 + 65520 + y % 65536) % 65521
def joinB (x y n : Nat) : Nat := (x / 65536 + y / 65536 + n % 65521 * (x % 65536 + 65520)) % 65521
def join (x y n : Nat) : Nat := num (joinA x y) (joinB x y n)
theorem join_lt (x y n : Nat) : join x y n < 4294967296 := by
  have h1 : joinA x y < 65521 := Nat.mod_lt _ (by decide)
  have h2 : joinB x y n < 65521 := Nat.mod_lt _ (by decide)
  unfold join num; omega
theorem join_aux (n s m : Nat) (hm : 0 < m) : ∃ z, n % m * ((1 + s) % m + (m - 1)) + m * z = n * s + m * n := by
  refine ⟨n * ((1 + s) / m) + n / m * ((1 + s) % m + (m - 1)), ?_⟩
  have h1 := Nat.div_add_mod n m
  have h2 := Nat.div_add_mod (1 + s) m
  generalize (1 + s) / m = q at *
  generalize (1 + s) % m = k at *
  generalize n / m = u at *
  generalize n % m = v at *
  have e1 : n * s + m * n = n * (m * q + (k + (m - 1))) := by
    have : m * q + (k + (m - 1)) = s + m := by omega
    rw [this, Nat.mul_add, Nat.mul_comm m n]
  have e2 : n * (k + (m - 1)) = m * (u * (k + (m - 1))) + v * (k + (m - 1)) := by
    rw [← Nat.mul_assoc, ← Nat.add_mul, h1]
  rw [e1, Nat.mul_add n (m * q), e2, Nat.mul_add m, Nat.mul_left_comm n m q]
  omega
theorem join_sum (l r : List UInt8) : join (sum l) (sum r) r.length = sum (l ++ r) := by
  have e1 : joinA (sum l) (sum r) = A (l ++ r) := by
    unfold joinA; rw [sum_lo, sum_lo]; unfold A ha; rw [sa_append]; omega
  have e2 : joinB (sum l) (sum r) r.length = B (l ++ r) := by
    unfold joinB; rw [sum_lo, sum_hi, sum_hi]
    unfold A B hb ha
    rw [sb_append, List.length_append]
    obtain ⟨z, hz⟩ := join_aux r.length (sa l) 65521 (by decide)
    rw [show 65521 - 1 = 65520 from rfl] at hz
    generalize r.length % 65521 * ((1 + sa l) % 65521 + 65520) = S at *
    generalize r.length * sa l = R at *
    omega
  show num _ _ = num _ _
  rw [e1, e2]

/-- One byte changed. -/
theorem changed (l r : List UInt8) (c d : UInt8) : sum (l ++ c :: r) = sum (l ++ d :: r) ↔ c = d := by
  constructor
  · intro h
    have h1 := ((sum_eq _ _).1 h).1
    unfold A ha at h1
    rw [sa_append, sa_append] at h1
    simp only [sa] at h1
    have hc := c.toNat_lt; have hd := d.toNat_lt
    apply UInt8.toNat.inj
    omega
  · rintro rfl; rfl

/-- Two bytes side by side turned about. -/
theorem turned (l r : List UInt8) (c d : UInt8) : sum (l ++ d :: c :: r) = sum (l ++ c :: d :: r) ↔ c = d := by
  constructor
  · intro h
    have h1 := ((sum_eq _ _).1 h).2
    unfold B hb at h1
    rw [sb_append, sb_append] at h1
    simp only [sb, List.length_cons, List.length_append, Nat.mul_one] at h1
    have hc := c.toNat_lt; have hd := d.toNat_lt
    apply UInt8.toNat.inj
    simp only [Nat.add_mul, Nat.one_mul] at h1
    generalize r.length * c.toNat = P at *
    generalize r.length * d.toNat = Q at *
    generalize (r.length + 1 + 1) * sa l = R at *
    generalize r.length * sa l = R2 at *
    omega
  · rintro rfl; rfl
end Go.Proofs.YtmlpkimbcjkbkaaGreatDoor.Ad
