/-
 CONTRACT of layer 11's quoted: what stands between two like signs.
-/
import Derived.Test.YtmbfdkiejneheaaGreatDoorLxR2
import Derived.Lib.AppendStr
import Derived.Lib.BufferRead
namespace Go.Proofs.YtmbfdkiejneheaaGreatDoor
open Go.RowKit

set_option maxRecDepth 100000 in
theorem row_conv {w : World} {B c : Nat} {a : Option Addr} {l : List UInt8} (h : w.ownsRow B 5 1 (.slice a l.length c) l.length (Lib.byteCells l)) :
  (convert 51 9 (.slice a l.length c)).run Tryz.prog w = .ok (.string ⟨l.toArray⟩) w := by
 rcases h.2 with ⟨h1, h0⟩ | ⟨g, cap, cur, h1, _, hg, _, _, _, htk⟩
 ·
  obtain rfl : l = [] := List.eq_nil_of_length_eq_zero h0
  injection h1 with h1 h2 h3
  subst h1; subst h3
  exact Lib.run_convert_nil_bytes w _ _ 5 _ Tryz.underlying51 Tryz.underlying5 Tryz.underlying9
 ·
  injection h1 with h1 h2 h3
  subst h1; subst h3
  exact run_convert_bytes_back (P := Tryz.prog) w 51 9 5 _ c l Tryz.underlying51 Tryz.underlying5 Tryz.underlying9 (Lib.bytes_of_row hg (by simpa using htk))
theorem row_drew {w : World} {B : Nat} {e : TypeId} {z : Nat} {v : Value} {n : Nat} {xs : List Value} (h : w.ownsRow B e z v n xs) : w.drew.ownsRow B e z v n xs := h
theorem Tryz.infoU8 : (Tryz.prog.info? 5).map (fun i => (i.zero, i.size, i.bytes)) = some (some (.int .u8 0), 1, 1) := by kernel_rfl
theorem row_snoc {w : World} {B : Nat} {v : Value} {l : List UInt8} {c : UInt8} (h : w.ownsRow B 5 1 v (l.length + 1) (Lib.byteCells l ++ [Value.int IntKind.u8 c.toNat])) : w.ownsRow B 5 1 v (l ++ [c]).length (Lib.byteCells (l ++ [c])) := by
 rw [Lib.byteCells_append, List.length_append]; exact h
theorem row_str {w : World} {B : Nat} {v : Value} {l : List UInt8} {t : ByteArray} (h : w.ownsRow B 5 1 v (l.length + t.size) (Lib.byteCells l ++ Lib.strCells t)) : w.ownsRow B 5 1 v (l ++ t.data.toList).length (Lib.byteCells (l ++ t.data.toList)) := by
 rw [Lib.byteCells_append, List.length_append, ba_sz]; exact h
/-- What a step leaves. -/
def StPost (b : Nat) (s : ByteArray) (p : Nat) (l : List Tok) (w : World) (x : St) (e : Ending) (w' : World) : Prop :=
 (match x with
  | .eof => e = .returned (.bool false) ∧ Rs b w' s p false l
  | .bad o => e = .returned (.bool false) ∧ Rs b w' s (p + o) true l
  | .tok k t z => e = .returned (.bool true) ∧ Rs b w' s (p + z) false (l ++ [⟨k, t, p⟩])) ∧ Below b w w'
/-- What the loop has gathered. -/
structure QR (b : Nat) (s : ByteArray) (p : Nat) (l : List Tok) (v : Value) (Q0 : Qu) (esc : UInt8 → List UInt8) (q : UInt8) (w : World) (tv : Value) (acc : List UInt8) (k : Nat) (wr : World) : Prop where
 row : wr.ownsRow w.heap.size 5 1 tv acc.length (Lib.byteCells acc)
 rs : RsV b wr s p false l v
 below : Below w.heap.size w wr
 eq : Q0 = (quL esc q (s.data.toList.drop k)).push acc (k - (p + 1))
theorem QR.toB {b : Nat} {s : ByteArray} {p : Nat} {l : List Tok} {v : Value} {Q0 : Qu} {esc : UInt8 → List UInt8} {q : UInt8} {w : World} {tv : Value} {acc : List UInt8} {k : Nat} {wr : World} (h : QR b s p l v Q0 esc q w tv acc k wr) (hb : b < w.heap.size) : Below b w wr := h.below.mono (Nat.le_of_lt hb)
theorem qu_q {esc : UInt8 → List UInt8} {q : UInt8} {s : ByteArray} {k : Nat} (hk : k < s.size) (h : s[k] = q) : quL esc q (s.data.toList.drop k) = .done [] 1 := by
 rw [drop_at s k hk]; unfold quL; rw [if_pos h]
theorem qu_nl {esc : UInt8 → List UInt8} {q : UInt8} {s : ByteArray} {k : Nat} (hk : k < s.size) (h : ¬ s[k] = q) (h2 : s[k] = 10) : quL esc q (s.data.toList.drop k) = .opened := by
 rw [drop_at s k hk]; unfold quL; rw [if_neg h, if_neg (by rw [h2]; decide), if_pos h2]
theorem qu_end {esc : UInt8 → List UInt8} {q : UInt8} {s : ByteArray} {k : Nat} (hk : ¬ k < s.size) : quL esc q (s.data.toList.drop k) = .opened := by
 rw [drop_end s k (by omega)]; unfold quL; rfl
theorem qu_one {esc : UInt8 → List UInt8} {q : UInt8} {s : ByteArray} {k : Nat} (hk : k < s.size) (h : ¬ s[k] = q) (h2 : ¬ s[k] = 92) (h3 : ¬ s[k] = 10) : quL esc q (s.data.toList.drop k) = (quL esc q (s.data.toList.drop (k + 1))).push [s[k]] 1 := by
 rw [drop_at s k hk]; conv => lhs; unfold quL
 rw [if_neg h, if_neg h2, if_neg h3]
theorem qu_bad {esc : UInt8 → List UInt8} {q : UInt8} {s : ByteArray} {k : Nat} (hk : k < s.size) (h : ¬ s[k] = q) (h2 : s[k] = 92) (he : (escV esc (s.data.toList.drop (k + 1))).data.toList = []) : quL esc q (s.data.toList.drop k) = .wrong 0 := by
 rw [drop_at s k hk]; unfold quL; rw [if_neg h, if_pos h2]
 cases hd : s.data.toList.drop (k + 1) with
 | nil => rfl
 | cons d t =>
  rw [hd] at he
  simp only [escV] at he
  simp only []
  rw [if_pos (by simpa using he)]
theorem qu_esc {esc : UInt8 → List UInt8} {q : UInt8} {s : ByteArray} {k : Nat} (hk : k < s.size) (h : ¬ s[k] = q) (h2 : s[k] = 92) (he : ¬ (escV esc (s.data.toList.drop (k + 1))).data.toList = []) :
  quL esc q (s.data.toList.drop k) = (quL esc q (s.data.toList.drop (k + 2))).push (escV esc (s.data.toList.drop (k + 1))).data.toList 2 ∧ k + 2 ≤ s.size := by
 by_cases hk2 : k + 1 < s.size
 ·
  have e1 := drop_at s (k + 1) hk2
  rw [e1] at he
  have he' : ¬ esc s[k + 1] = [] := by simpa [escV] using he
  refine ⟨?_, by omega⟩
  rw [e1, drop_at s k hk, e1]; conv => lhs; unfold quL
  rw [if_neg h, if_pos h2]
  simp only []
  rw [if_neg he']
  simp [escV]
 ·
  exfalso; apply he; rw [drop_end s (k + 1) (by omega)]; rfl
theorem push_done (Q0 : Qu) (acc : List UInt8) (j : Nat) (h : Q0 = (Qu.done [] 1).push acc j) : Q0 = .done acc (j + 1) := by rw [h]; simp [Qu.push]
set_option maxHeartbeats 4000000 in
set_option maxRecDepth 100000 in
theorem quoted_str (b : Nat) (s : ByteArray) (p : Nat) (l : List Tok) (kd : Nat) (esc : UInt8 → List UInt8) (q : UInt8) (w : World) (h : Rs b w s p false l) (hs : s.size ≤ 10000) (hl : l.length ≤ 100000) (hp : p < s.size) (hq : s[p] = q)
  (hesc : ∀ d, (esc d).length ≤ 2) (C : ∀ t W, t.size ≤ 100000 → Calls Tryz.prog 28 #[.string t] W fun e w' => e = .returned (.string (escV esc t.data.toList)) ∧ Below W.heap.size W w') :
  Calls Tryz.prog 27 #[.pointer (some ⟨b, 0, none⟩), .int .i64 (kd : Int), .func (.func 28) #[] #[]] w (StPost b s p l w (St.ofQ kd (quL esc q (s.data.toList.drop (p + 1))))) := by
 obtain ⟨v, h⟩ := h
 have hlt := h.lt
 obtain ⟨⟨c0, c1, c2, c3⟩, f1, f2, f3⟩ := h.cells
 have H0 : Hid (QR b s p l v (quL esc q (s.data.toList.drop (p + 1))) esc q w (.slice none 0 0) [] (p + 1) w) := kH ⟨World.ownsRow_nil w _ _ _, h, Below.refl _ _, by rw [Nat.sub_self, Qu.push_nil]⟩
 have HC := kH C
 have HQ := kH hq
 have HES := kH hesc
 have HS := kH h
 generalize quL esc q (s.data.toList.drop (p + 1)) = Q0 at *
 clear C hq h hesc
 obtain ⟨i0, hi, hz0, hz1, hz2⟩ := info_parts Tryz.infoU8
 go_enter Tryz.func27, Tryz.ntmps27
 go_wp2
 clear c0 c1 c2 c3 f1 f2 f3
 go_loopw [7, 8] (fun tv iv wr => ∃ (k : Nat) (acc : List UInt8), k ≤ s.size ∧ p < k ∧ acc.length ≤ k ∧ iv = .int .i64 k ∧ Hid (QR b s p l v Q0 esc q w tv acc k wr)) (fun _ iv _ => s.size - (intOf iv).toNat)
 case atStart => exact ⟨p + 1, [], by omega, by omega, by simp, by go_num, H0⟩
 case round =>
  obtain ⟨k, acc, hk, hpk, hacc, rfl, HX⟩ := hrel
  obtain ⟨⟨c0, c1, c2, c3⟩, f1, f2, f3⟩ := HX.out.rs.cells
  obtain ⟨ta, tc, rfl⟩ := own_form HX.out.row
  by_cases hlt2 : k < s.size
  ·
   by_cases hc : s[k] = q
   ·
    have e1 : ((s[k].toNat : Int) == (s[p].toNat : Int)) = true := by rw [hc, HQ.out]; simp
    have HE := kH (push_done Q0 acc (k - (p + 1)) (by have := HX.out.eq; rwa [qu_q hlt2 hc] at this))
    have hcv := row_conv (row_drew (row_drew HX.out.row))
    have AD := kH (fun W (h : Rs b W s p false l) => add_any b s p false l kd ⟨acc.toArray⟩ (k + 1 - p) W h (by show acc.toArray.size ≤ _; rw [List.size_toArray]; omega) hl (by omega) (by omega))
    have hZ : (((k + 1 - p : Nat)) : Int) = (k : Int) + 1 - (p : Int) := by omega
    rw [hZ] at AD
    have HC9 := kH HX.out.rs.cells.drew
    clear hc
    go_wp2
    go_region
    go_wp2_with fail
    have w1 : IntKind.i64.wrap ((k : Int) + 1) = (k : Int) + 1 := by rw [IntKind.wrap_i64]; omega
    have w2 : IntKind.i64.wrap ((k : Int) + 1 - (p : Int)) = (k : Int) + 1 - (p : Int) := by rw [IntKind.wrap_i64]; omega
    clear c0 c1 c2 c3 f1 f2 f3
    refine wp_region_L (st := [11]) (S := fun w' => RC b s p false v w') (by kernel_rfl) (HC9.out.drew) (fun hHeld => ?_)
    refine tkL 0 (v := ?_) rfl ?_ ?_
    rotate_left
    ·
     (intro w hSw; obtain ⟨⟨q0, q1, q2, q3⟩, k1, k2, k3⟩ := hSw; go_simp; try with_reducible rfl)
    try simp only [nrm]
    refine tkL 1 (v := ?_) rfl ?_ ?_
    rotate_left
    ·
     (intro w hSw; obtain ⟨⟨q0, q1, q2, q3⟩, k1, k2, k3⟩ := hSw; go_simp; try with_reducible rfl)
    try simp only [nrm]
    refine tkL 2 (v := ?_) rfl ?_ ?_
    rotate_left
    ·
     (intro w hSw; obtain ⟨⟨q0, q1, q2, q3⟩, k1, k2, k3⟩ := hSw; go_simp; try with_reducible rfl)
    try simp only [nrm]
    refine tkL 4 (v := ?_) rfl ?_ ?_
    rotate_left
    ·
     (intro w hSw; obtain ⟨⟨q0, q1, q2, q3⟩, k1, k2, k3⟩ := hSw; go_simp; try with_reducible rfl)
    try simp only [nrm]
    refine tkL 5 (v := ?_) rfl ?_ ?_
    rotate_left
    ·
     (intro w hSw; obtain ⟨⟨q0, q1, q2, q3⟩, k1, k2, k3⟩ := hSw; go_simp; try with_reducible rfl)
    try simp only [nrm]
    refine tkL 6 (v := ?_) rfl ?_ ?_
    rotate_left
    ·
     (intro w hSw; obtain ⟨⟨q0, q1, q2, q3⟩, k1, k2, k3⟩ := hSw; go_simp; try with_reducible rfl)
    try simp only [nrm]
    refine tkL 7 (v := ?_) rfl ?_ ?_
    rotate_left
    ·
     (intro w hSw; obtain ⟨⟨q0, q1, q2, q3⟩, k1, k2, k3⟩ := hSw; go_simp; try with_reducible rfl)
    try simp only [nrm]
    refine tkL 8 (v := ?_) rfl ?_ ?_
    rotate_left
    ·
     (intro w hSw; obtain ⟨⟨q0, q1, q2, q3⟩, k1, k2, k3⟩ := hSw; go_simp; try with_reducible rfl)
    try simp only [nrm]
    refine tkL 9 (v := ?_) rfl ?_ ?_
    rotate_left
    ·
     (intro w hSw; obtain ⟨⟨q0, q1, q2, q3⟩, k1, k2, k3⟩ := hSw; go_simp; try with_reducible rfl)
    try simp only [nrm]
    refine tkL 10 (v := ?_) rfl ?_ ?_
    rotate_left
    ·
     (intro w hSw; obtain ⟨⟨q0, q1, q2, q3⟩, k1, k2, k3⟩ := hSw; go_simp; try with_reducible rfl)
    try simp only [nrm]
    refine rdL 3 rfl (fun K hK => ?_)
    go_simp
    refine hK.out _ _ (hHeld) (fun hHeld => ?_)
    clear hK K
    try simp only [nrm]
    refine wpAnyL_ready (rs := [11]) (by kernel_rfl) (by simp) ?_
    refine AllReadyL.store (o := _) rfl (by decide) (by decide) (fun K hK => ?_) AllReadyL.nil
    go_simp
    refine (AD.out _ ⟨v, HX.out.rs.drew.drew⟩).mono ?_
    rintro e w8 ⟨rfl, hr8, hb8⟩
    have HR8 := kH hr8
    have HB8 := kH ((HX.out.toB hlt).drew.drew.trans hb8)
    clear hr8 hb8
    go_simp
    refine hK.out _ _ ?_
    clear hK K
    try simp only [nrm]
    refine wpAnyL_done (by kernel_rfl) ?_ _
    go_wp2_with fail
    try rw [Exit.noGoto_ret]
    go_ret
    rw [HE.out]
    refine ⟨⟨rfl, ?_⟩, HB8.out⟩
    have h := HR8.out
    rw [show p + (k + 1 - p) = p + (k - (p + 1) + 1 + 1) from by omega] at h
    simpa using h
   ·
    have e1 : ((s[k].toNat : Int) == (s[p].toNat : Int)) = false := by
     rw [beq_eq_false_iff_ne]; intro e; exact hc ((u8_of e).trans HQ.out)
    by_cases h92 : (s[k].toNat : Int) = 92
    ·
     have c92 : s[k] = 92 := nat_of (by decide) h92
     have CE : Hid (∀ W, Calls Tryz.prog 28 #[.string (s.extract (k + 1) s.size)] W fun e w' => e = .returned (.string (escV esc (s.data.toList.drop (k + 1)))) ∧ Below W.heap.size W w') := kH fun W => by
      have := HC.out (s.extract (k + 1) s.size) W (by simp; omega)
      rw [extk] at this; exact this
     have hM2 : (escV esc (s.data.toList.drop (k + 1))).size ≤ 2 := by
      rw [← ba_sz]
      cases hd : s.data.toList.drop (k + 1) with
      | nil => simp [escV]
      | cons d t => simpa [escV] using HES.out d
     by_cases hM : (escV esc (s.data.toList.drop (k + 1))).data.toList = []
     ·
      have HE : Hid (Q0 = .wrong (k - (p + 1))) := kH (by have := HX.out.eq; rw [qu_bad hlt2 hc c92 hM] at this; simpa [Qu.push] using this)
      have he : (escV esc (s.data.toList.drop (k + 1))).toList.isEmpty = true := by rw [ByteArray.toList_eq, hM]; rfl
      have FA := kH (fun W (h : Rs b W s p false l) => fail_any b s p k false l W h)
      generalize escV esc (s.data.toList.drop (k + 1)) = M at *
      clear hc hM c92
      go_wp2
      go_region
      go_wp2_with (refine (CE.out _).mono ?_; rintro e w8 ⟨rfl, hb8⟩; have HR8 := kH (HX.out.rs.drew.below hb8 (Nat.le_refl _)); have HB8 := kH ((HX.out.toB hlt).drew.trans (hb8.mono (Nat.le_of_lt HX.out.rs.lt))))
      refine (FA.out _ ⟨v, HR8.out⟩).mono ?_
      rintro e w9 ⟨rfl, hr9, hb9⟩
      have HR9 := kH hr9
      have HB9 := kH (HB8.out.trans hb9)
      clear hr9 hb9
      go_wp2_with fail
      try rw [Exit.noGoto_ret]
      go_ret
      rw [HE.out]
      refine ⟨⟨rfl, ?_⟩, HB9.out⟩
      have h := HR9.out
      rw [show k = p + (k - (p + 1) + 1) from by omega] at h
      exact h
     ·
      obtain ⟨hQ, hk2⟩ := qu_esc hlt2 hc c92 hM
      have he : (escV esc (s.data.toList.drop (k + 1))).toList.isEmpty = false := by rw [ByteArray.toList_eq, Bool.eq_false_iff, ne_eq, List.isEmpty_iff]; exact hM
      have HE : Hid (Q0 = (quL esc q (s.data.toList.drop (k + 2))).push (acc ++ (escV esc (s.data.toList.drop (k + 1))).data.toList) (k + 2 - (p + 1))) := kH (by
       have := HX.out.eq
       rw [hQ, Qu.push_push] at this
       rw [this]; congr 1; omega)
      generalize escV esc (s.data.toList.drop (k + 1)) = M at *
      clear hc hM c92 hQ
      go_wp2
      go_region
      go_wp2_with fail
      refine (CE.out _).mono ?_
      rintro e w8 ⟨rfl, hb8⟩
      have HR8 := kH (HX.out.rs.drew.below hb8 (Nat.le_refl _))
      have HB8 := kH (HX.out.below.drew.trans (hb8.mono (show w.heap.size ≤ wr.drew.heap.size from HX.out.below.size)))
      have HW8 := kH (own_below (row_drew HX.out.row) hb8 (Nat.le_refl _))
      clear hb8
      go_wp2_with (at_builtin; refine Lib.wpList_append_own_string _ rfl (.tmp 75) (.tmp 76) 51 9 rfl w.heap.size 5 i0 Tryz.underlying51 Tryz.underlying9 hi hz0 hz1 hz2 (.slice ta acc.length tc) acc.length (Lib.byteCells acc) rfl HW8.out M rfl ?d1 ?d2 ?d3 ?_)
      case d1 => unfold maxLen; omega
      case d2 => omega
      case d3 => exact HB8.out.size
      intro v9 w9 hown9 hgrow9 _
      have hrow9 := row_str hown9
      have hrs9 : RsV b w9 s p false l v := (HS.out.below (HB8.out.grown hgrow9 HB8.out.size (fun g e => (own_base HW8.out g e).1)) (Nat.le_refl _))
      have HN : Hid (QR b s p l v Q0 esc q w v9 (acc ++ M.data.toList) (k + 2) w9) := kH ⟨hrow9, hrs9, HB8.out.grown hgrow9 HB8.out.size (fun g e => (own_base HW8.out g e).1), HE.out⟩
      clear hown9 hgrow9 hrow9 hrs9 HR8 HB8 HW8 HE
      go_wp2_with fail
      go_roundw
      case rel => exact ⟨k + 2, acc ++ M.data.toList, hk2, by omega, by rw [List.length_append, ba_sz]; omega, by go_num, HN⟩
      case measure => simp [intOf]; omega
    ·
     have n92 : ¬ s[k] = 92 := fun e => h92 (by rw [e]; rfl)
     have b92 : ((s[k].toNat : Int) == 92) = false := by simpa using h92
     by_cases h10 : (s[k].toNat : Int) = 10
     ·
      have c10 : s[k] = 10 := nat_of (by decide) h10
      have HE : Hid (Q0 = .opened) := kH (by have := HX.out.eq; rw [qu_nl hlt2 hc c10] at this; simpa [Qu.push] using this)
      have FA := kH (fun W (h : Rs b W s p false l) => fail_any b s p p false l W h)
      have HC9 := kH HX.out.rs.drew
      have HB9 := kH (HX.out.toB hlt).drew
      clear hc n92 c10
      go_wp2
      go_region
      go_wp2_with fail
      refine (FA.out _ ⟨v, HC9.out⟩).mono ?_
      rintro e w9 ⟨rfl, hr9, hb9⟩
      have HR9 := kH hr9
      have HB10 := kH (HB9.out.trans hb9)
      clear hr9 hb9
      go_wp2_with fail
      try rw [Exit.noGoto_ret]
      go_ret
      rw [HE.out]
      exact ⟨⟨rfl, HR9.out⟩, HB10.out⟩
     ·
      have n10 : ¬ s[k] = 10 := fun e => h10 (by rw [e]; rfl)
      have b10 : ((s[k].toNat : Int) == 10) = false := by simpa using h10
      have HE : Hid (Q0 = (quL esc q (s.data.toList.drop (k + 1))).push (acc ++ [s[k]]) (k + 1 - (p + 1))) := kH (by
       have := HX.out.eq
       rw [qu_one hlt2 hc n92 n10, Qu.push_push] at this
       rw [this]; congr 1; omega)
      generalize hcc : s[k] = cc at *
      clear hc n92 n10
      go_wp2
      go_region
      go_wp2_with (at_builtin; refine wpList_append_own _ rfl (.tmp 32) (.tmp 34) 51 rfl w.heap.size 5 i0 (.int .u8 0) 1 1 Tryz.underlying51 hi hz0 hz1 hz2 rfl (by decide) (.slice ta acc.length tc) acc.length (Lib.byteCells acc) rfl ((row_drew HX.out.row).alloc _) ⟨wr.heap.size, 0, none⟩ 1 1 [.int .u8 cc.toNat] rfl rfl ?c1 ?c2 ?c3 ?c4 ?c5 ?_)
      case c1 => exact cell_one_new _ _ _
      case c2 => simp [Value.oneCell']
      case c3 => unfold maxLen; omega
      case c4 => omega
      case c5 => have := HX.out.below.size; simp; omega
      intro v9 w9 hown9 hgrow9 _
      have hrow9 := row_snoc (c := cc) hown9
      have hrs9 : RsV b w9 s p false l v := (HS.out.below ((HX.out.below.drew.alloc HX.out.below.size _).grown hgrow9 (by have := HX.out.below.size; simp; omega) (fun g e => (own_base HX.out.row g e).1)) (Nat.le_refl _))
      have HN : Hid (QR b s p l v Q0 esc q w v9 (acc ++ [cc]) (k + 1) w9) := kH ⟨hrow9, hrs9, (HX.out.below.drew.alloc HX.out.below.size _).grown hgrow9 (by have := HX.out.below.size; simp; omega) (fun g e => (own_base HX.out.row g e).1), HE.out⟩
      clear hown9 hgrow9 hrow9 hrs9 HE
      go_wp2_with fail
      go_roundw
      case rel => exact ⟨k + 1, acc ++ [cc], by omega, by omega, by rw [List.length_append]; simp; omega, by go_num, HN⟩
      case measure => simp [intOf]; omega
  ·
   have HE : Hid (Q0 = .opened) := kH (by have := HX.out.eq; rw [qu_end hlt2] at this; simpa [Qu.push] using this)
   have FA := kH (fun W (h : Rs b W s p false l) => fail_any b s p p false l W h)
   have HC9 := kH HX.out.rs
   have HB9 := kH (HX.out.toB hlt)
   go_wp2_with fail
   refine (FA.out _ ⟨v, HC9.out⟩).mono ?_
   rintro e w9 ⟨rfl, hr9, hb9⟩
   have HR9 := kH hr9
   have HB10 := kH (HB9.out.trans hb9)
   clear hr9 hb9
   go_wp2_with fail
   go_ret
   rw [HE.out]
   exact ⟨⟨rfl, HR9.out⟩, HB10.out⟩
set_option maxHeartbeats 4000000 in
set_option maxRecDepth 100000 in
theorem quoted_re (b : Nat) (s : ByteArray) (p : Nat) (l : List Tok) (kd : Nat) (esc : UInt8 → List UInt8) (q : UInt8) (w : World) (h : Rs b w s p false l) (hs : s.size ≤ 10000) (hl : l.length ≤ 100000) (hp : p < s.size) (hq : s[p] = q)
  (hesc : ∀ d, (esc d).length ≤ 2) (C : ∀ t W, t.size ≤ 100000 → Calls Tryz.prog 30 #[.string t] W fun e w' => e = .returned (.string (escV esc t.data.toList)) ∧ Below W.heap.size W w') :
  Calls Tryz.prog 27 #[.pointer (some ⟨b, 0, none⟩), .int .i64 (kd : Int), .func (.func 30) #[] #[]] w (StPost b s p l w (St.ofQ kd (quL esc q (s.data.toList.drop (p + 1))))) := by
 obtain ⟨v, h⟩ := h
 have hlt := h.lt
 obtain ⟨⟨c0, c1, c2, c3⟩, f1, f2, f3⟩ := h.cells
 have H0 : Hid (QR b s p l v (quL esc q (s.data.toList.drop (p + 1))) esc q w (.slice none 0 0) [] (p + 1) w) := kH ⟨World.ownsRow_nil w _ _ _, h, Below.refl _ _, by rw [Nat.sub_self, Qu.push_nil]⟩
 have HC := kH C
 have HQ := kH hq
 have HES := kH hesc
 have HS := kH h
 generalize quL esc q (s.data.toList.drop (p + 1)) = Q0 at *
 clear C hq h hesc
 obtain ⟨i0, hi, hz0, hz1, hz2⟩ := info_parts Tryz.infoU8
 go_enter Tryz.func27, Tryz.ntmps27
 go_wp2
 clear c0 c1 c2 c3 f1 f2 f3
 go_loopw [7, 8] (fun tv iv wr => ∃ (k : Nat) (acc : List UInt8), k ≤ s.size ∧ p < k ∧ acc.length ≤ k ∧ iv = .int .i64 k ∧ Hid (QR b s p l v Q0 esc q w tv acc k wr)) (fun _ iv _ => s.size - (intOf iv).toNat)
 case atStart => exact ⟨p + 1, [], by omega, by omega, by simp, by go_num, H0⟩
 case round =>
  obtain ⟨k, acc, hk, hpk, hacc, rfl, HX⟩ := hrel
  obtain ⟨⟨c0, c1, c2, c3⟩, f1, f2, f3⟩ := HX.out.rs.cells
  obtain ⟨ta, tc, rfl⟩ := own_form HX.out.row
  by_cases hlt2 : k < s.size
  ·
   by_cases hc : s[k] = q
   ·
    have e1 : ((s[k].toNat : Int) == (s[p].toNat : Int)) = true := by rw [hc, HQ.out]; simp
    have HE := kH (push_done Q0 acc (k - (p + 1)) (by have := HX.out.eq; rwa [qu_q hlt2 hc] at this))
    have hcv := row_conv (row_drew (row_drew HX.out.row))
    have AD := kH (fun W (h : Rs b W s p false l) => add_any b s p false l kd ⟨acc.toArray⟩ (k + 1 - p) W h (by show acc.toArray.size ≤ _; rw [List.size_toArray]; omega) hl (by omega) (by omega))
    have hZ : (((k + 1 - p : Nat)) : Int) = (k : Int) + 1 - (p : Int) := by omega
    rw [hZ] at AD
    have HC9 := kH HX.out.rs.cells.drew
    clear hc
    go_wp2
    go_region
    go_wp2_with fail
    have w1 : IntKind.i64.wrap ((k : Int) + 1) = (k : Int) + 1 := by rw [IntKind.wrap_i64]; omega
    have w2 : IntKind.i64.wrap ((k : Int) + 1 - (p : Int)) = (k : Int) + 1 - (p : Int) := by rw [IntKind.wrap_i64]; omega
    clear c0 c1 c2 c3 f1 f2 f3
    refine wp_region_L (st := [11]) (S := fun w' => RC b s p false v w') (by kernel_rfl) (HC9.out.drew) (fun hHeld => ?_)
    refine tkL 0 (v := ?_) rfl ?_ ?_
    rotate_left
    ·
     (intro w hSw; obtain ⟨⟨q0, q1, q2, q3⟩, k1, k2, k3⟩ := hSw; go_simp; try with_reducible rfl)
    try simp only [nrm]
    refine tkL 1 (v := ?_) rfl ?_ ?_
    rotate_left
    ·
     (intro w hSw; obtain ⟨⟨q0, q1, q2, q3⟩, k1, k2, k3⟩ := hSw; go_simp; try with_reducible rfl)
    try simp only [nrm]
    refine tkL 2 (v := ?_) rfl ?_ ?_
    rotate_left
    ·
     (intro w hSw; obtain ⟨⟨q0, q1, q2, q3⟩, k1, k2, k3⟩ := hSw; go_simp; try with_reducible rfl)
    try simp only [nrm]
    refine tkL 4 (v := ?_) rfl ?_ ?_
    rotate_left
    ·
     (intro w hSw; obtain ⟨⟨q0, q1, q2, q3⟩, k1, k2, k3⟩ := hSw; go_simp; try with_reducible rfl)
    try simp only [nrm]
    refine tkL 5 (v := ?_) rfl ?_ ?_
    rotate_left
    ·
     (intro w hSw; obtain ⟨⟨q0, q1, q2, q3⟩, k1, k2, k3⟩ := hSw; go_simp; try with_reducible rfl)
    try simp only [nrm]
    refine tkL 6 (v := ?_) rfl ?_ ?_
    rotate_left
    ·
     (intro w hSw; obtain ⟨⟨q0, q1, q2, q3⟩, k1, k2, k3⟩ := hSw; go_simp; try with_reducible rfl)
    try simp only [nrm]
    refine tkL 7 (v := ?_) rfl ?_ ?_
    rotate_left
    ·
     (intro w hSw; obtain ⟨⟨q0, q1, q2, q3⟩, k1, k2, k3⟩ := hSw; go_simp; try with_reducible rfl)
    try simp only [nrm]
    refine tkL 8 (v := ?_) rfl ?_ ?_
    rotate_left
    ·
     (intro w hSw; obtain ⟨⟨q0, q1, q2, q3⟩, k1, k2, k3⟩ := hSw; go_simp; try with_reducible rfl)
    try simp only [nrm]
    refine tkL 9 (v := ?_) rfl ?_ ?_
    rotate_left
    ·
     (intro w hSw; obtain ⟨⟨q0, q1, q2, q3⟩, k1, k2, k3⟩ := hSw; go_simp; try with_reducible rfl)
    try simp only [nrm]
    refine tkL 10 (v := ?_) rfl ?_ ?_
    rotate_left
    ·
     (intro w hSw; obtain ⟨⟨q0, q1, q2, q3⟩, k1, k2, k3⟩ := hSw; go_simp; try with_reducible rfl)
    try simp only [nrm]
    refine rdL 3 rfl (fun K hK => ?_)
    go_simp
    refine hK.out _ _ (hHeld) (fun hHeld => ?_)
    clear hK K
    try simp only [nrm]
    refine wpAnyL_ready (rs := [11]) (by kernel_rfl) (by simp) ?_
    refine AllReadyL.store (o := _) rfl (by decide) (by decide) (fun K hK => ?_) AllReadyL.nil
    go_simp
    refine (AD.out _ ⟨v, HX.out.rs.drew.drew⟩).mono ?_
    rintro e w8 ⟨rfl, hr8, hb8⟩
    have HR8 := kH hr8
    have HB8 := kH ((HX.out.toB hlt).drew.drew.trans hb8)
    clear hr8 hb8
    go_simp
    refine hK.out _ _ ?_
    clear hK K
    try simp only [nrm]
    refine wpAnyL_done (by kernel_rfl) ?_ _
    go_wp2_with fail
    try rw [Exit.noGoto_ret]
    go_ret
    rw [HE.out]
    refine ⟨⟨rfl, ?_⟩, HB8.out⟩
    have h := HR8.out
    rw [show p + (k + 1 - p) = p + (k - (p + 1) + 1 + 1) from by omega] at h
    simpa using h
   ·
    have e1 : ((s[k].toNat : Int) == (s[p].toNat : Int)) = false := by
     rw [beq_eq_false_iff_ne]; intro e; exact hc ((u8_of e).trans HQ.out)
    by_cases h92 : (s[k].toNat : Int) = 92
    ·
     have c92 : s[k] = 92 := nat_of (by decide) h92
     have CE : Hid (∀ W, Calls Tryz.prog 30 #[.string (s.extract (k + 1) s.size)] W fun e w' => e = .returned (.string (escV esc (s.data.toList.drop (k + 1)))) ∧ Below W.heap.size W w') := kH fun W => by
      have := HC.out (s.extract (k + 1) s.size) W (by simp; omega)
      rw [extk] at this; exact this
     have hM2 : (escV esc (s.data.toList.drop (k + 1))).size ≤ 2 := by
      rw [← ba_sz]
      cases hd : s.data.toList.drop (k + 1) with
      | nil => simp [escV]
      | cons d t => simpa [escV] using HES.out d
     by_cases hM : (escV esc (s.data.toList.drop (k + 1))).data.toList = []
     ·
      have HE : Hid (Q0 = .wrong (k - (p + 1))) := kH (by have := HX.out.eq; rw [qu_bad hlt2 hc c92 hM] at this; simpa [Qu.push] using this)
      have he : (escV esc (s.data.toList.drop (k + 1))).toList.isEmpty = true := by rw [ByteArray.toList_eq, hM]; rfl
      have FA := kH (fun W (h : Rs b W s p false l) => fail_any b s p k false l W h)
      generalize escV esc (s.data.toList.drop (k + 1)) = M at *
      clear hc hM c92
      go_wp2
      go_region
      go_wp2_with (refine (CE.out _).mono ?_; rintro e w8 ⟨rfl, hb8⟩; have HR8 := kH (HX.out.rs.drew.below hb8 (Nat.le_refl _)); have HB8 := kH ((HX.out.toB hlt).drew.trans (hb8.mono (Nat.le_of_lt HX.out.rs.lt))))
      refine (FA.out _ ⟨v, HR8.out⟩).mono ?_
      rintro e w9 ⟨rfl, hr9, hb9⟩
      have HR9 := kH hr9
      have HB9 := kH (HB8.out.trans hb9)
      clear hr9 hb9
      go_wp2_with fail
      try rw [Exit.noGoto_ret]
      go_ret
      rw [HE.out]
      refine ⟨⟨rfl, ?_⟩, HB9.out⟩
      have h := HR9.out
      rw [show k = p + (k - (p + 1) + 1) from by omega] at h
      exact h
     ·
      obtain ⟨hQ, hk2⟩ := qu_esc hlt2 hc c92 hM
      have he : (escV esc (s.data.toList.drop (k + 1))).toList.isEmpty = false := by rw [ByteArray.toList_eq, Bool.eq_false_iff, ne_eq, List.isEmpty_iff]; exact hM
      have HE : Hid (Q0 = (quL esc q (s.data.toList.drop (k + 2))).push (acc ++ (escV esc (s.data.toList.drop (k + 1))).data.toList) (k + 2 - (p + 1))) := kH (by
       have := HX.out.eq
       rw [hQ, Qu.push_push] at this
       rw [this]; congr 1; omega)
      generalize escV esc (s.data.toList.drop (k + 1)) = M at *
      clear hc hM c92 hQ
      go_wp2
      go_region
      go_wp2_with fail
      refine (CE.out _).mono ?_
      rintro e w8 ⟨rfl, hb8⟩
      have HR8 := kH (HX.out.rs.drew.below hb8 (Nat.le_refl _))
      have HB8 := kH (HX.out.below.drew.trans (hb8.mono (show w.heap.size ≤ wr.drew.heap.size from HX.out.below.size)))
      have HW8 := kH (own_below (row_drew HX.out.row) hb8 (Nat.le_refl _))
      clear hb8
      go_wp2_with (at_builtin; refine Lib.wpList_append_own_string _ rfl (.tmp 75) (.tmp 76) 51 9 rfl w.heap.size 5 i0 Tryz.underlying51 Tryz.underlying9 hi hz0 hz1 hz2 (.slice ta acc.length tc) acc.length (Lib.byteCells acc) rfl HW8.out M rfl ?d1 ?d2 ?d3 ?_)
      case d1 => unfold maxLen; omega
      case d2 => omega
      case d3 => exact HB8.out.size
      intro v9 w9 hown9 hgrow9 _
      have hrow9 := row_str hown9
      have hrs9 : RsV b w9 s p false l v := (HS.out.below (HB8.out.grown hgrow9 HB8.out.size (fun g e => (own_base HW8.out g e).1)) (Nat.le_refl _))
      have HN : Hid (QR b s p l v Q0 esc q w v9 (acc ++ M.data.toList) (k + 2) w9) := kH ⟨hrow9, hrs9, HB8.out.grown hgrow9 HB8.out.size (fun g e => (own_base HW8.out g e).1), HE.out⟩
      clear hown9 hgrow9 hrow9 hrs9 HR8 HB8 HW8 HE
      go_wp2_with fail
      go_roundw
      case rel => exact ⟨k + 2, acc ++ M.data.toList, hk2, by omega, by rw [List.length_append, ba_sz]; omega, by go_num, HN⟩
      case measure => simp [intOf]; omega
    ·
     have n92 : ¬ s[k] = 92 := fun e => h92 (by rw [e]; rfl)
     have b92 : ((s[k].toNat : Int) == 92) = false := by simpa using h92
     by_cases h10 : (s[k].toNat : Int) = 10
     ·
      have c10 : s[k] = 10 := nat_of (by decide) h10
      have HE : Hid (Q0 = .opened) := kH (by have := HX.out.eq; rw [qu_nl hlt2 hc c10] at this; simpa [Qu.push] using this)
      have FA := kH (fun W (h : Rs b W s p false l) => fail_any b s p p false l W h)
      have HC9 := kH HX.out.rs.drew
      have HB9 := kH (HX.out.toB hlt).drew
      clear hc n92 c10
      go_wp2
      go_region
      go_wp2_with fail
      refine (FA.out _ ⟨v, HC9.out⟩).mono ?_
      rintro e w9 ⟨rfl, hr9, hb9⟩
      have HR9 := kH hr9
      have HB10 := kH (HB9.out.trans hb9)
      clear hr9 hb9
      go_wp2_with fail
      try rw [Exit.noGoto_ret]
      go_ret
      rw [HE.out]
      exact ⟨⟨rfl, HR9.out⟩, HB10.out⟩
     ·
      have n10 : ¬ s[k] = 10 := fun e => h10 (by rw [e]; rfl)
      have b10 : ((s[k].toNat : Int) == 10) = false := by simpa using h10
      have HE : Hid (Q0 = (quL esc q (s.data.toList.drop (k + 1))).push (acc ++ [s[k]]) (k + 1 - (p + 1))) := kH (by
       have := HX.out.eq
       rw [qu_one hlt2 hc n92 n10, Qu.push_push] at this
       rw [this]; congr 1; omega)
      generalize hcc : s[k] = cc at *
      clear hc n92 n10
      go_wp2
      go_region
      go_wp2_with (at_builtin; refine wpList_append_own _ rfl (.tmp 32) (.tmp 34) 51 rfl w.heap.size 5 i0 (.int .u8 0) 1 1 Tryz.underlying51 hi hz0 hz1 hz2 rfl (by decide) (.slice ta acc.length tc) acc.length (Lib.byteCells acc) rfl ((row_drew HX.out.row).alloc _) ⟨wr.heap.size, 0, none⟩ 1 1 [.int .u8 cc.toNat] rfl rfl ?c1 ?c2 ?c3 ?c4 ?c5 ?_)
      case c1 => exact cell_one_new _ _ _
      case c2 => simp [Value.oneCell']
      case c3 => unfold maxLen; omega
      case c4 => omega
      case c5 => have := HX.out.below.size; simp; omega
      intro v9 w9 hown9 hgrow9 _
      have hrow9 := row_snoc (c := cc) hown9
      have hrs9 : RsV b w9 s p false l v := (HS.out.below ((HX.out.below.drew.alloc HX.out.below.size _).grown hgrow9 (by have := HX.out.below.size; simp; omega) (fun g e => (own_base HX.out.row g e).1)) (Nat.le_refl _))
      have HN : Hid (QR b s p l v Q0 esc q w v9 (acc ++ [cc]) (k + 1) w9) := kH ⟨hrow9, hrs9, (HX.out.below.drew.alloc HX.out.below.size _).grown hgrow9 (by have := HX.out.below.size; simp; omega) (fun g e => (own_base HX.out.row g e).1), HE.out⟩
      clear hown9 hgrow9 hrow9 hrs9 HE
      go_wp2_with fail
      go_roundw
      case rel => exact ⟨k + 1, acc ++ [cc], by omega, by omega, by rw [List.length_append]; simp; omega, by go_num, HN⟩
      case measure => simp [intOf]; omega
  ·
   have HE : Hid (Q0 = .opened) := kH (by have := HX.out.eq; rw [qu_end hlt2] at this; simpa [Qu.push] using this)
   have FA := kH (fun W (h : Rs b W s p false l) => fail_any b s p p false l W h)
   have HC9 := kH HX.out.rs
   have HB9 := kH (HX.out.toB hlt)
   go_wp2_with fail
   refine (FA.out _ ⟨v, HC9.out⟩).mono ?_
   rintro e w9 ⟨rfl, hr9, hb9⟩
   have HR9 := kH hr9
   have HB10 := kH (HB9.out.trans hb9)
   clear hr9 hb9
   go_wp2_with fail
   go_ret
   rw [HE.out]
   exact ⟨⟨rfl, HR9.out⟩, HB10.out⟩
end Go.Proofs.YtmbfdkiejneheaaGreatDoor
