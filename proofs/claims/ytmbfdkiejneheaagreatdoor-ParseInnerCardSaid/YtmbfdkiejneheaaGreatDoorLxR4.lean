/-
 CONTRACTS of layer 11's numberOrSign and token: one token is taken, or none.
-/
import Derived.Test.YtmbfdkiejneheaaGreatDoorLxR3
namespace Go.Proofs.YtmbfdkiejneheaaGreatDoor
open Go.RowKit

def nosL (l : List UInt8) : St := if 0 < numL l then .tok 2 (l.take (numL l)) (numL l) else if 0 < signL l then .tok 8 (l.take (signL l)) (signL l) else .bad 0
set_option maxHeartbeats 1000000 in
theorem nos_any (b : Nat) (s : ByteArray) (p : Nat) (l : List Tok) (R : ByteArray) (w : World) (h : Rs b w s p false l) (hs : R.size ≤ 10000) (hl : l.length ≤ 100000) (hp : p ≤ 10000) :
  Calls Tryz.prog 34 #[.pointer (some ⟨b, 0, none⟩), .string R] w (StPost b s p l w (nosL R.data.toList)) := by
 have C1 := kH fun W => numb_any R W (by omega)
 have C2 := kH fun W => signs_any R W (by omega)
 have hn := num_le R.data.toList
 have hg := sign_le R.data.toList
 rw [ba_sz] at hn hg
 unfold nosL
 have AD := kH (fun (k m : Nat) (hm : m ≤ R.size) => add_any b s p false l k (R.extract 0 m) m w h (by simp; omega) hl (by omega) (by omega))
 have FA := kH (fail_any b s p p false l w h)
 have HC := kH h
 by_cases h1 : 0 < numL R.data.toList
 ·
  rw [if_pos h1]
  have ht : (R.extract 0 (numL R.data.toList)).data.toList = R.data.toList.take (numL R.data.toList) := ext0 _ _
  have AD' := kH (AD.out 2 _ hn)
  rw [ht] at AD'
  generalize R.data.toList.take (numL R.data.toList) = T at *
  generalize numL R.data.toList = N at *
  clear ht AD FA C2 h
  go_enter Tryz.func34, Tryz.ntmps34
  go_wp2_with fail
  refine (C1.out _).mono ?_
  rintro e w1 ⟨rfl, rfl⟩
  go_wp2_with fail
  refine AD'.out.mono ?_
  rintro e w1 ⟨rfl, hr, hb⟩
  go_wp2_with fail
  go_ret
  exact ⟨⟨rfl, hr⟩, hb⟩
 ·
  rw [if_neg h1]
  by_cases h2 : 0 < signL R.data.toList
  ·
   rw [if_pos h2]
   have ht : (R.extract 0 (signL R.data.toList)).data.toList = R.data.toList.take (signL R.data.toList) := ext0 _ _
   have AD' := kH (AD.out 8 _ hg)
   rw [ht] at AD'
   generalize R.data.toList.take (signL R.data.toList) = T at *
   generalize signL R.data.toList = N at *
   obtain hz : numL R.data.toList = 0 := by omega
   have C1' : Hid (∀ W, Calls Tryz.prog 48 #[.string R] W fun e w' => e = .returned (.int .i64 0) ∧ w' = W) := kH fun W => by have := C1.out W; rw [hz] at this; exact this
   clear ht AD FA C1 h h1 hz hn
   go_enter Tryz.func34, Tryz.ntmps34
   go_wp2_with fail
   refine (C1'.out _).mono ?_
   rintro e w1 ⟨rfl, rfl⟩
   go_wp2_with fail
   refine (C2.out _).mono ?_
   rintro e w1 ⟨rfl, rfl⟩
   go_wp2_with fail
   refine AD'.out.mono ?_
   rintro e w1 ⟨rfl, hr, hb⟩
   go_wp2_with fail
   go_ret
   exact ⟨⟨rfl, hr⟩, hb⟩
  ·
   rw [if_neg h2]
   obtain hz : numL R.data.toList = 0 := by omega
   obtain hz2 : signL R.data.toList = 0 := by omega
   have C1' : Hid (∀ W, Calls Tryz.prog 48 #[.string R] W fun e w' => e = .returned (.int .i64 0) ∧ w' = W) := kH fun W => by have := C1.out W; rw [hz] at this; exact this
   have C2' : Hid (∀ W, Calls Tryz.prog 49 #[.string R] W fun e w' => e = .returned (.int .i64 0) ∧ w' = W) := kH fun W => by have := C2.out W; rw [hz2] at this; exact this
   obtain ⟨v, hv⟩ := h
   obtain ⟨⟨c0, c1, c2, c3⟩, f1, f2, f3⟩ := hv.cells
   clear AD C1 C2 h1 h2 hz hz2 hn hg hv
   go_enter Tryz.func34, Tryz.ntmps34
   go_wp2_with fail
   refine (C1'.out _).mono ?_
   rintro e w1 ⟨rfl, rfl⟩
   go_wp2_with fail
   refine (C2'.out _).mono ?_
   rintro e w1 ⟨rfl, rfl⟩
   go_wp2_with fail
   refine FA.out.mono ?_
   rintro e w1 ⟨rfl, hr, hb⟩
   go_wp2_with fail
   go_ret
   exact ⟨⟨rfl, hr⟩, hb⟩
theorem StPost.form {b : Nat} {s : ByteArray} {p : Nat} {l : List Tok} {w : World} {x : St} {e : Ending} {w' : World} (h : StPost b s p l w x e w') : ∃ r, e = .returned (.bool r) ∧ StPost b s p l w x (.returned (.bool r)) w' := by
 obtain ⟨h1, h2⟩ := h
 cases x with
 | eof => exact ⟨false, h1.1, ⟨rfl, h1.2⟩, h2⟩
 | bad o => exact ⟨false, h1.1, ⟨rfl, h1.2⟩, h2⟩
 | tok k t z => exact ⟨true, h1.1, ⟨rfl, h1.2⟩, h2⟩
theorem StPost.start {b : Nat} {s : ByteArray} {p : Nat} {l : List Tok} {w w1 : World} {x : St} {e : Ending} {w' : World} (h : StPost b s p l w1 x e w') (hb : Below b w w1) : StPost b s p l w x e w' := ⟨h.1, hb.trans h.2⟩
set_option maxHeartbeats 4000000 in
set_option maxRecDepth 100000 in
theorem token_eof (b : Nat) (s : ByteArray) (p m P : Nat) (l : List Tok) (v : Value) (R : ByteArray) (X : St) (w : World) (h : RsV b w s p false l v) (hs : s.size ≤ 10000) (_hl : l.length ≤ 100000) (hP : P = p + m) (hp : P ≤ s.size)
  (BL : Hid (∀ W, Calls Tryz.prog 26 #[.string (s.extract p s.size)] W fun e w' => e = .returned (.int .i64 (m : Int)) ∧ w' = W)) (hR : Hid (s.extract P s.size = R))
  (h0 : Hid (R = ⟨#[]⟩)) (hX : X = .eof) :
  Calls Tryz.prog 19 #[.pointer (some ⟨b, 0, none⟩)] w (StPost b s P l w X) := by
 have HC0 := kH h.cells
 have HR1 := kH ((h.setAt P).drew)
 have HB1 := kH ((Below.refl b w).setCell (p := ⟨b, 1, none⟩) (Nat.le_refl b) (.int .i64 (P : Int))).drew
 have hlt := h.lt
 clear h
 have w1 : IntKind.i64.wrap (P : Int) = (P : Int) := by rw [IntKind.wrap_i64]; omega
 have w3 : (p : Int) + (m : Int) = (P : Int) := by omega
 have w2 : (p : Int) ≤ (s.size : Int) := by omega
 have HP := kH hP
 clear hP
 go_enter Tryz.func19, Tryz.ntmps19
 go_wp2_with fail
 refine wp_region_L (st := [17]) (S := fun w' => RC b s p false v w') (by kernel_rfl) (HC0.out.drew) (fun hHeld => ?_)
 refine tkL 0 (v := ?_) rfl ?_ ?_
 rotate_left
 ·
  (intro w hSw; obtain ⟨⟨q0, q1, q2, q3⟩, k1, k2, k3⟩ := hSw; go_simp; try with_reducible rfl)
 try simp only [nrm]
 refine tkL 1 (v := ?_) rfl ?_ ?_
 rotate_left
 ·
  (intro w hSw; obtain ⟨⟨q0, q1, q2, q3⟩, k1, k2, k3⟩ := hSw; go_simp; try with_reducible rfl)
 try simp only [nrm]
 refine tkL 2 (v := ?_) rfl ?_ ?_
 rotate_left
 ·
  (intro w hSw; obtain ⟨⟨q0, q1, q2, q3⟩, k1, k2, k3⟩ := hSw; go_simp; try with_reducible rfl)
 try simp only [nrm]
 refine tkL 3 (v := ?_) rfl ?_ ?_
 rotate_left
 ·
  (intro w hSw; obtain ⟨⟨q0, q1, q2, q3⟩, k1, k2, k3⟩ := hSw; go_simp; try with_reducible rfl)
 try simp only [nrm]
 refine tkL 4 (v := ?_) rfl ?_ ?_
 rotate_left
 ·
  (intro w hSw; obtain ⟨⟨q0, q1, q2, q3⟩, k1, k2, k3⟩ := hSw; go_simp; try with_reducible rfl)
 try simp only [nrm]
 refine tkL 5 (v := ?_) rfl ?_ ?_
 rotate_left
 ·
  (intro w hSw; obtain ⟨⟨q0, q1, q2, q3⟩, k1, k2, k3⟩ := hSw; go_simp; try with_reducible rfl)
 try simp only [nrm]
 refine tkL 6 (v := ?_) rfl ?_ ?_
 rotate_left
 ·
  (intro w hSw; obtain ⟨⟨q0, q1, q2, q3⟩, k1, k2, k3⟩ := hSw; go_simp; try with_reducible rfl)
 try simp only [nrm]
 refine tkL 7 (v := ?_) rfl ?_ ?_
 rotate_left
 ·
  (intro w hSw; obtain ⟨⟨q0, q1, q2, q3⟩, k1, k2, k3⟩ := hSw; go_simp; try with_reducible rfl)
 try simp only [nrm]
 refine tkL 8 (v := ?_) rfl ?_ ?_
 rotate_left
 ·
  (intro w hSw; obtain ⟨⟨q0, q1, q2, q3⟩, k1, k2, k3⟩ := hSw; go_simp; try with_reducible rfl)
 try simp only [nrm]
 refine tkL 9 (v := ?_) rfl ?_ ?_
 rotate_left
 ·
  (intro w hSw; obtain ⟨⟨q0, q1, q2, q3⟩, k1, k2, k3⟩ := hSw; go_simp; try with_reducible rfl)
 try simp only [nrm]
 refine tkL 10 (v := ?_) rfl ?_ ?_
 rotate_left
 ·
  (intro w hSw; obtain ⟨⟨q0, q1, q2, q3⟩, k1, k2, k3⟩ := hSw; go_simp; try with_reducible rfl)
 try simp only [nrm]
 refine tkL 11 (v := ?_) rfl ?_ ?_
 rotate_left
 ·
  (intro w hSw; obtain ⟨⟨q0, q1, q2, q3⟩, k1, k2, k3⟩ := hSw; go_simp; try with_reducible rfl)
 try simp only [nrm]
 refine tkL 12 (v := ?_) rfl ?_ ?_
 rotate_left
 ·
  (intro w hSw; obtain ⟨⟨q0, q1, q2, q3⟩, k1, k2, k3⟩ := hSw; go_simp; try with_reducible rfl)
 try simp only [nrm]
 refine rdL 13 rfl (fun K hK => ?_)
 go_simp
 refine (BL.out _).mono ?_
 rintro e w8 ⟨rfl, rfl⟩
 go_simp
 refine hK.out _ _ (hHeld) (fun hHeld => ?_)
 clear hK K
 try simp only [nrm]
 refine tkL 14 (v := ?_) rfl ?_ ?_
 rotate_left
 ·
  (intro w hSw; obtain ⟨⟨q0, q1, q2, q3⟩, k1, k2, k3⟩ := hSw; go_simp; try with_reducible rfl)
 try simp only [nrm]
 refine tkL 15 (v := ?_) rfl ?_ ?_
 rotate_left
 ·
  (intro w hSw; obtain ⟨⟨q0, q1, q2, q3⟩, k1, k2, k3⟩ := hSw; go_simp; try with_reducible rfl)
 try simp only [nrm]
 refine tkL 16 (v := ?_) rfl ?_ ?_
 rotate_left
 ·
  (intro w hSw; obtain ⟨⟨q0, q1, q2, q3⟩, k1, k2, k3⟩ := hSw; go_simp; try with_reducible rfl)
 try simp only [nrm]
 obtain ⟨⟨q0, q1, q2, q3⟩, k1, k2, k3⟩ := hHeld
 refine wpAnyL_ready (rs := [17]) (by kernel_rfl) (by simp) ?_
 refine AllReadyL.store (o := _) rfl (by decide) (by decide) (fun K hK => ?_) AllReadyL.nil
 go_simp
 refine hK.out _ _ ?_
 clear hK K
 try simp only [nrm]
 refine wpAnyL_done (by kernel_rfl) ?_ _
 clear q0 q1 q2 q3 k1 k2 k3 w1 w3
 generalize hW1 : (w.setCell ⟨b, 1, none⟩ (.int .i64 (P : Int))).drew = W1 at *
 clear hW1
 obtain ⟨⟨c0, c1, c2, c3⟩, f1, f2, f3⟩ := HR1.out.cells
 have w5 : (P : Int) ≤ (s.size : Int) := by omega
 go_wp2_with fail
 go_region
 rw [hR.out]
 rw [h0.out]
 subst hX
 go_wp2_with fail
 go_ret
 exact ⟨⟨rfl, v, HR1.out.drew⟩, HB1.out.drew⟩
set_option maxHeartbeats 4000000 in
set_option maxRecDepth 100000 in
theorem token_nl (b : Nat) (s : ByteArray) (p m P : Nat) (l : List Tok) (v : Value) (R : ByteArray) (X : St) (w : World) (h : RsV b w s p false l v) (hs : s.size ≤ 10000) (_hl : l.length ≤ 100000) (hP : P = p + m) (hp : P ≤ s.size)
  (BL : Hid (∀ W, Calls Tryz.prog 26 #[.string (s.extract p s.size)] W fun e w' => e = .returned (.int .i64 (m : Int)) ∧ w' = W)) (hR : Hid (s.extract P s.size = R))
  (he : R.toList.isEmpty = false) (hz : 0 < R.size) (h1 : (R[0].toNat : Int) = 10) (hX : X = .tok 1 [] 1) :
  Calls Tryz.prog 19 #[.pointer (some ⟨b, 0, none⟩)] w (StPost b s P l w X) := by
 have HC0 := kH h.cells
 have HR1 := kH ((h.setAt P).drew)
 have HB1 := kH ((Below.refl b w).setCell (p := ⟨b, 1, none⟩) (Nat.le_refl b) (.int .i64 (P : Int))).drew
 have hlt := h.lt
 clear h
 have w1 : IntKind.i64.wrap (P : Int) = (P : Int) := by rw [IntKind.wrap_i64]; omega
 have w3 : (p : Int) + (m : Int) = (P : Int) := by omega
 have w2 : (p : Int) ≤ (s.size : Int) := by omega
 have HP := kH hP
 clear hP
 go_enter Tryz.func19, Tryz.ntmps19
 go_wp2_with fail
 refine wp_region_L (st := [17]) (S := fun w' => RC b s p false v w') (by kernel_rfl) (HC0.out.drew) (fun hHeld => ?_)
 refine tkL 0 (v := ?_) rfl ?_ ?_
 rotate_left
 ·
  (intro w hSw; obtain ⟨⟨q0, q1, q2, q3⟩, k1, k2, k3⟩ := hSw; go_simp; try with_reducible rfl)
 try simp only [nrm]
 refine tkL 1 (v := ?_) rfl ?_ ?_
 rotate_left
 ·
  (intro w hSw; obtain ⟨⟨q0, q1, q2, q3⟩, k1, k2, k3⟩ := hSw; go_simp; try with_reducible rfl)
 try simp only [nrm]
 refine tkL 2 (v := ?_) rfl ?_ ?_
 rotate_left
 ·
  (intro w hSw; obtain ⟨⟨q0, q1, q2, q3⟩, k1, k2, k3⟩ := hSw; go_simp; try with_reducible rfl)
 try simp only [nrm]
 refine tkL 3 (v := ?_) rfl ?_ ?_
 rotate_left
 ·
  (intro w hSw; obtain ⟨⟨q0, q1, q2, q3⟩, k1, k2, k3⟩ := hSw; go_simp; try with_reducible rfl)
 try simp only [nrm]
 refine tkL 4 (v := ?_) rfl ?_ ?_
 rotate_left
 ·
  (intro w hSw; obtain ⟨⟨q0, q1, q2, q3⟩, k1, k2, k3⟩ := hSw; go_simp; try with_reducible rfl)
 try simp only [nrm]
 refine tkL 5 (v := ?_) rfl ?_ ?_
 rotate_left
 ·
  (intro w hSw; obtain ⟨⟨q0, q1, q2, q3⟩, k1, k2, k3⟩ := hSw; go_simp; try with_reducible rfl)
 try simp only [nrm]
 refine tkL 6 (v := ?_) rfl ?_ ?_
 rotate_left
 ·
  (intro w hSw; obtain ⟨⟨q0, q1, q2, q3⟩, k1, k2, k3⟩ := hSw; go_simp; try with_reducible rfl)
 try simp only [nrm]
 refine tkL 7 (v := ?_) rfl ?_ ?_
 rotate_left
 ·
  (intro w hSw; obtain ⟨⟨q0, q1, q2, q3⟩, k1, k2, k3⟩ := hSw; go_simp; try with_reducible rfl)
 try simp only [nrm]
 refine tkL 8 (v := ?_) rfl ?_ ?_
 rotate_left
 ·
  (intro w hSw; obtain ⟨⟨q0, q1, q2, q3⟩, k1, k2, k3⟩ := hSw; go_simp; try with_reducible rfl)
 try simp only [nrm]
 refine tkL 9 (v := ?_) rfl ?_ ?_
 rotate_left
 ·
  (intro w hSw; obtain ⟨⟨q0, q1, q2, q3⟩, k1, k2, k3⟩ := hSw; go_simp; try with_reducible rfl)
 try simp only [nrm]
 refine tkL 10 (v := ?_) rfl ?_ ?_
 rotate_left
 ·
  (intro w hSw; obtain ⟨⟨q0, q1, q2, q3⟩, k1, k2, k3⟩ := hSw; go_simp; try with_reducible rfl)
 try simp only [nrm]
 refine tkL 11 (v := ?_) rfl ?_ ?_
 rotate_left
 ·
  (intro w hSw; obtain ⟨⟨q0, q1, q2, q3⟩, k1, k2, k3⟩ := hSw; go_simp; try with_reducible rfl)
 try simp only [nrm]
 refine tkL 12 (v := ?_) rfl ?_ ?_
 rotate_left
 ·
  (intro w hSw; obtain ⟨⟨q0, q1, q2, q3⟩, k1, k2, k3⟩ := hSw; go_simp; try with_reducible rfl)
 try simp only [nrm]
 refine rdL 13 rfl (fun K hK => ?_)
 go_simp
 refine (BL.out _).mono ?_
 rintro e w8 ⟨rfl, rfl⟩
 go_simp
 refine hK.out _ _ (hHeld) (fun hHeld => ?_)
 clear hK K
 try simp only [nrm]
 refine tkL 14 (v := ?_) rfl ?_ ?_
 rotate_left
 ·
  (intro w hSw; obtain ⟨⟨q0, q1, q2, q3⟩, k1, k2, k3⟩ := hSw; go_simp; try with_reducible rfl)
 try simp only [nrm]
 refine tkL 15 (v := ?_) rfl ?_ ?_
 rotate_left
 ·
  (intro w hSw; obtain ⟨⟨q0, q1, q2, q3⟩, k1, k2, k3⟩ := hSw; go_simp; try with_reducible rfl)
 try simp only [nrm]
 refine tkL 16 (v := ?_) rfl ?_ ?_
 rotate_left
 ·
  (intro w hSw; obtain ⟨⟨q0, q1, q2, q3⟩, k1, k2, k3⟩ := hSw; go_simp; try with_reducible rfl)
 try simp only [nrm]
 obtain ⟨⟨q0, q1, q2, q3⟩, k1, k2, k3⟩ := hHeld
 refine wpAnyL_ready (rs := [17]) (by kernel_rfl) (by simp) ?_
 refine AllReadyL.store (o := _) rfl (by decide) (by decide) (fun K hK => ?_) AllReadyL.nil
 go_simp
 refine hK.out _ _ ?_
 clear hK K
 try simp only [nrm]
 refine wpAnyL_done (by kernel_rfl) ?_ _
 clear q0 q1 q2 q3 k1 k2 k3 w1 w3
 generalize hW1 : (w.setCell ⟨b, 1, none⟩ (.int .i64 (P : Int))).drew = W1 at *
 clear hW1
 obtain ⟨⟨c0, c1, c2, c3⟩, f1, f2, f3⟩ := HR1.out.cells
 have w5 : (P : Int) ≤ (s.size : Int) := by omega
 go_wp2_with fail
 go_region
 rw [hR.out]
 subst hX
 have AD : Hid (∀ W, Rs b W s P false l → Calls Tryz.prog 20 #[.pointer (some ⟨b, 0, none⟩), .int .i64 1, .string ⟨#[]⟩, .int .i64 1] W (AdPost b s (P + 1) false (l ++ [⟨1, [], P⟩]) W)) := kH fun W h => add_any b s P false l 1 ⟨#[]⟩ 1 W h (by decide) _hl (by omega) (by omega)
 go_wp2_with fail
 refine (AD.out _ ⟨v, HR1.out.drew⟩).mono ?_
 rintro e w8 ⟨rfl, hr, hb⟩
 have HR8 := kH hr
 have HB8 := kH (HB1.out.drew.trans hb)
 clear hr hb
 go_wp2_with fail
 go_ret
 exact ⟨⟨rfl, HR8.out⟩, HB8.out⟩
set_option maxHeartbeats 4000000 in
set_option maxRecDepth 100000 in
theorem token_str (b : Nat) (s : ByteArray) (p m P : Nat) (l : List Tok) (v : Value) (R : ByteArray) (X : St) (w : World) (h : RsV b w s p false l v) (hs : s.size ≤ 10000) (_hl : l.length ≤ 100000) (hP : P = p + m) (hp : P ≤ s.size)
  (BL : Hid (∀ W, Calls Tryz.prog 26 #[.string (s.extract p s.size)] W fun e w' => e = .returned (.int .i64 (m : Int)) ∧ w' = W)) (hR : Hid (s.extract P s.size = R))
  (he : R.toList.isEmpty = false) (hz : 0 < R.size) (h1 : (R[0].toNat : Int) = 34) (QS : Hid (∀ W, Rs b W s P false l → Calls Tryz.prog 27 #[.pointer (some ⟨b, 0, none⟩), .int .i64 3, .func (.func 28) #[] #[]] W (StPost b s P l W X))) :
  Calls Tryz.prog 19 #[.pointer (some ⟨b, 0, none⟩)] w (StPost b s P l w X) := by
 have HC0 := kH h.cells
 have HR1 := kH ((h.setAt P).drew)
 have HB1 := kH ((Below.refl b w).setCell (p := ⟨b, 1, none⟩) (Nat.le_refl b) (.int .i64 (P : Int))).drew
 have hlt := h.lt
 clear h
 have w1 : IntKind.i64.wrap (P : Int) = (P : Int) := by rw [IntKind.wrap_i64]; omega
 have w3 : (p : Int) + (m : Int) = (P : Int) := by omega
 have w2 : (p : Int) ≤ (s.size : Int) := by omega
 have HP := kH hP
 clear hP
 go_enter Tryz.func19, Tryz.ntmps19
 go_wp2_with fail
 refine wp_region_L (st := [17]) (S := fun w' => RC b s p false v w') (by kernel_rfl) (HC0.out.drew) (fun hHeld => ?_)
 refine tkL 0 (v := ?_) rfl ?_ ?_
 rotate_left
 ·
  (intro w hSw; obtain ⟨⟨q0, q1, q2, q3⟩, k1, k2, k3⟩ := hSw; go_simp; try with_reducible rfl)
 try simp only [nrm]
 refine tkL 1 (v := ?_) rfl ?_ ?_
 rotate_left
 ·
  (intro w hSw; obtain ⟨⟨q0, q1, q2, q3⟩, k1, k2, k3⟩ := hSw; go_simp; try with_reducible rfl)
 try simp only [nrm]
 refine tkL 2 (v := ?_) rfl ?_ ?_
 rotate_left
 ·
  (intro w hSw; obtain ⟨⟨q0, q1, q2, q3⟩, k1, k2, k3⟩ := hSw; go_simp; try with_reducible rfl)
 try simp only [nrm]
 refine tkL 3 (v := ?_) rfl ?_ ?_
 rotate_left
 ·
  (intro w hSw; obtain ⟨⟨q0, q1, q2, q3⟩, k1, k2, k3⟩ := hSw; go_simp; try with_reducible rfl)
 try simp only [nrm]
 refine tkL 4 (v := ?_) rfl ?_ ?_
 rotate_left
 ·
  (intro w hSw; obtain ⟨⟨q0, q1, q2, q3⟩, k1, k2, k3⟩ := hSw; go_simp; try with_reducible rfl)
 try simp only [nrm]
 refine tkL 5 (v := ?_) rfl ?_ ?_
 rotate_left
 ·
  (intro w hSw; obtain ⟨⟨q0, q1, q2, q3⟩, k1, k2, k3⟩ := hSw; go_simp; try with_reducible rfl)
 try simp only [nrm]
 refine tkL 6 (v := ?_) rfl ?_ ?_
 rotate_left
 ·
  (intro w hSw; obtain ⟨⟨q0, q1, q2, q3⟩, k1, k2, k3⟩ := hSw; go_simp; try with_reducible rfl)
 try simp only [nrm]
 refine tkL 7 (v := ?_) rfl ?_ ?_
 rotate_left
 ·
  (intro w hSw; obtain ⟨⟨q0, q1, q2, q3⟩, k1, k2, k3⟩ := hSw; go_simp; try with_reducible rfl)
 try simp only [nrm]
 refine tkL 8 (v := ?_) rfl ?_ ?_
 rotate_left
 ·
  (intro w hSw; obtain ⟨⟨q0, q1, q2, q3⟩, k1, k2, k3⟩ := hSw; go_simp; try with_reducible rfl)
 try simp only [nrm]
 refine tkL 9 (v := ?_) rfl ?_ ?_
 rotate_left
 ·
  (intro w hSw; obtain ⟨⟨q0, q1, q2, q3⟩, k1, k2, k3⟩ := hSw; go_simp; try with_reducible rfl)
 try simp only [nrm]
 refine tkL 10 (v := ?_) rfl ?_ ?_
 rotate_left
 ·
  (intro w hSw; obtain ⟨⟨q0, q1, q2, q3⟩, k1, k2, k3⟩ := hSw; go_simp; try with_reducible rfl)
 try simp only [nrm]
 refine tkL 11 (v := ?_) rfl ?_ ?_
 rotate_left
 ·
  (intro w hSw; obtain ⟨⟨q0, q1, q2, q3⟩, k1, k2, k3⟩ := hSw; go_simp; try with_reducible rfl)
 try simp only [nrm]
 refine tkL 12 (v := ?_) rfl ?_ ?_
 rotate_left
 ·
  (intro w hSw; obtain ⟨⟨q0, q1, q2, q3⟩, k1, k2, k3⟩ := hSw; go_simp; try with_reducible rfl)
 try simp only [nrm]
 refine rdL 13 rfl (fun K hK => ?_)
 go_simp
 refine (BL.out _).mono ?_
 rintro e w8 ⟨rfl, rfl⟩
 go_simp
 refine hK.out _ _ (hHeld) (fun hHeld => ?_)
 clear hK K
 try simp only [nrm]
 refine tkL 14 (v := ?_) rfl ?_ ?_
 rotate_left
 ·
  (intro w hSw; obtain ⟨⟨q0, q1, q2, q3⟩, k1, k2, k3⟩ := hSw; go_simp; try with_reducible rfl)
 try simp only [nrm]
 refine tkL 15 (v := ?_) rfl ?_ ?_
 rotate_left
 ·
  (intro w hSw; obtain ⟨⟨q0, q1, q2, q3⟩, k1, k2, k3⟩ := hSw; go_simp; try with_reducible rfl)
 try simp only [nrm]
 refine tkL 16 (v := ?_) rfl ?_ ?_
 rotate_left
 ·
  (intro w hSw; obtain ⟨⟨q0, q1, q2, q3⟩, k1, k2, k3⟩ := hSw; go_simp; try with_reducible rfl)
 try simp only [nrm]
 obtain ⟨⟨q0, q1, q2, q3⟩, k1, k2, k3⟩ := hHeld
 refine wpAnyL_ready (rs := [17]) (by kernel_rfl) (by simp) ?_
 refine AllReadyL.store (o := _) rfl (by decide) (by decide) (fun K hK => ?_) AllReadyL.nil
 go_simp
 refine hK.out _ _ ?_
 clear hK K
 try simp only [nrm]
 refine wpAnyL_done (by kernel_rfl) ?_ _
 clear q0 q1 q2 q3 k1 k2 k3 w1 w3
 generalize hW1 : (w.setCell ⟨b, 1, none⟩ (.int .i64 (P : Int))).drew = W1 at *
 clear hW1
 obtain ⟨⟨c0, c1, c2, c3⟩, f1, f2, f3⟩ := HR1.out.cells
 have w5 : (P : Int) ≤ (s.size : Int) := by omega
 go_wp2_with fail
 go_region
 rw [hR.out]
 go_wp2_with fail
 refine (QS.out _ ⟨v, HR1.out.drew⟩).mono ?_
 rintro e w8 h9
 have HB9 := kH HB1.out.drew
 obtain ⟨r, rfl, h9⟩ := StPost.form h9
 have H9 := kH h9
 clear h9
 go_wp2_with fail
 go_ret
 exact H9.out.start HB9.out
set_option maxHeartbeats 4000000 in
set_option maxRecDepth 100000 in
theorem token_re (b : Nat) (s : ByteArray) (p m P : Nat) (l : List Tok) (v : Value) (R : ByteArray) (X : St) (w : World) (h : RsV b w s p false l v) (hs : s.size ≤ 10000) (_hl : l.length ≤ 100000) (hP : P = p + m) (hp : P ≤ s.size)
  (BL : Hid (∀ W, Calls Tryz.prog 26 #[.string (s.extract p s.size)] W fun e w' => e = .returned (.int .i64 (m : Int)) ∧ w' = W)) (hR : Hid (s.extract P s.size = R))
  (he : R.toList.isEmpty = false) (hz : 0 < R.size) (h1 : (R[0].toNat : Int) = 47) (BG : Hid (∀ W, Rs b W s P false l → Calls Tryz.prog 29 #[.pointer (some ⟨b, 0, none⟩)] W fun e w' => e = .returned (.bool true) ∧ Below W.heap.size W w')) (QS : Hid (∀ W, Rs b W s P false l → Calls Tryz.prog 27 #[.pointer (some ⟨b, 0, none⟩), .int .i64 4, .func (.func 30) #[] #[]] W (StPost b s P l W X))) :
  Calls Tryz.prog 19 #[.pointer (some ⟨b, 0, none⟩)] w (StPost b s P l w X) := by
 have HC0 := kH h.cells
 have HR1 := kH ((h.setAt P).drew)
 have HB1 := kH ((Below.refl b w).setCell (p := ⟨b, 1, none⟩) (Nat.le_refl b) (.int .i64 (P : Int))).drew
 have hlt := h.lt
 clear h
 have w1 : IntKind.i64.wrap (P : Int) = (P : Int) := by rw [IntKind.wrap_i64]; omega
 have w3 : (p : Int) + (m : Int) = (P : Int) := by omega
 have w2 : (p : Int) ≤ (s.size : Int) := by omega
 have HP := kH hP
 clear hP
 go_enter Tryz.func19, Tryz.ntmps19
 go_wp2_with fail
 refine wp_region_L (st := [17]) (S := fun w' => RC b s p false v w') (by kernel_rfl) (HC0.out.drew) (fun hHeld => ?_)
 refine tkL 0 (v := ?_) rfl ?_ ?_
 rotate_left
 ·
  (intro w hSw; obtain ⟨⟨q0, q1, q2, q3⟩, k1, k2, k3⟩ := hSw; go_simp; try with_reducible rfl)
 try simp only [nrm]
 refine tkL 1 (v := ?_) rfl ?_ ?_
 rotate_left
 ·
  (intro w hSw; obtain ⟨⟨q0, q1, q2, q3⟩, k1, k2, k3⟩ := hSw; go_simp; try with_reducible rfl)
 try simp only [nrm]
 refine tkL 2 (v := ?_) rfl ?_ ?_
 rotate_left
 ·
  (intro w hSw; obtain ⟨⟨q0, q1, q2, q3⟩, k1, k2, k3⟩ := hSw; go_simp; try with_reducible rfl)
 try simp only [nrm]
 refine tkL 3 (v := ?_) rfl ?_ ?_
 rotate_left
 ·
  (intro w hSw; obtain ⟨⟨q0, q1, q2, q3⟩, k1, k2, k3⟩ := hSw; go_simp; try with_reducible rfl)
 try simp only [nrm]
 refine tkL 4 (v := ?_) rfl ?_ ?_
 rotate_left
 ·
  (intro w hSw; obtain ⟨⟨q0, q1, q2, q3⟩, k1, k2, k3⟩ := hSw; go_simp; try with_reducible rfl)
 try simp only [nrm]
 refine tkL 5 (v := ?_) rfl ?_ ?_
 rotate_left
 ·
  (intro w hSw; obtain ⟨⟨q0, q1, q2, q3⟩, k1, k2, k3⟩ := hSw; go_simp; try with_reducible rfl)
 try simp only [nrm]
 refine tkL 6 (v := ?_) rfl ?_ ?_
 rotate_left
 ·
  (intro w hSw; obtain ⟨⟨q0, q1, q2, q3⟩, k1, k2, k3⟩ := hSw; go_simp; try with_reducible rfl)
 try simp only [nrm]
 refine tkL 7 (v := ?_) rfl ?_ ?_
 rotate_left
 ·
  (intro w hSw; obtain ⟨⟨q0, q1, q2, q3⟩, k1, k2, k3⟩ := hSw; go_simp; try with_reducible rfl)
 try simp only [nrm]
 refine tkL 8 (v := ?_) rfl ?_ ?_
 rotate_left
 ·
  (intro w hSw; obtain ⟨⟨q0, q1, q2, q3⟩, k1, k2, k3⟩ := hSw; go_simp; try with_reducible rfl)
 try simp only [nrm]
 refine tkL 9 (v := ?_) rfl ?_ ?_
 rotate_left
 ·
  (intro w hSw; obtain ⟨⟨q0, q1, q2, q3⟩, k1, k2, k3⟩ := hSw; go_simp; try with_reducible rfl)
 try simp only [nrm]
 refine tkL 10 (v := ?_) rfl ?_ ?_
 rotate_left
 ·
  (intro w hSw; obtain ⟨⟨q0, q1, q2, q3⟩, k1, k2, k3⟩ := hSw; go_simp; try with_reducible rfl)
 try simp only [nrm]
 refine tkL 11 (v := ?_) rfl ?_ ?_
 rotate_left
 ·
  (intro w hSw; obtain ⟨⟨q0, q1, q2, q3⟩, k1, k2, k3⟩ := hSw; go_simp; try with_reducible rfl)
 try simp only [nrm]
 refine tkL 12 (v := ?_) rfl ?_ ?_
 rotate_left
 ·
  (intro w hSw; obtain ⟨⟨q0, q1, q2, q3⟩, k1, k2, k3⟩ := hSw; go_simp; try with_reducible rfl)
 try simp only [nrm]
 refine rdL 13 rfl (fun K hK => ?_)
 go_simp
 refine (BL.out _).mono ?_
 rintro e w8 ⟨rfl, rfl⟩
 go_simp
 refine hK.out _ _ (hHeld) (fun hHeld => ?_)
 clear hK K
 try simp only [nrm]
 refine tkL 14 (v := ?_) rfl ?_ ?_
 rotate_left
 ·
  (intro w hSw; obtain ⟨⟨q0, q1, q2, q3⟩, k1, k2, k3⟩ := hSw; go_simp; try with_reducible rfl)
 try simp only [nrm]
 refine tkL 15 (v := ?_) rfl ?_ ?_
 rotate_left
 ·
  (intro w hSw; obtain ⟨⟨q0, q1, q2, q3⟩, k1, k2, k3⟩ := hSw; go_simp; try with_reducible rfl)
 try simp only [nrm]
 refine tkL 16 (v := ?_) rfl ?_ ?_
 rotate_left
 ·
  (intro w hSw; obtain ⟨⟨q0, q1, q2, q3⟩, k1, k2, k3⟩ := hSw; go_simp; try with_reducible rfl)
 try simp only [nrm]
 obtain ⟨⟨q0, q1, q2, q3⟩, k1, k2, k3⟩ := hHeld
 refine wpAnyL_ready (rs := [17]) (by kernel_rfl) (by simp) ?_
 refine AllReadyL.store (o := _) rfl (by decide) (by decide) (fun K hK => ?_) AllReadyL.nil
 go_simp
 refine hK.out _ _ ?_
 clear hK K
 try simp only [nrm]
 refine wpAnyL_done (by kernel_rfl) ?_ _
 clear q0 q1 q2 q3 k1 k2 k3 w1 w3
 generalize hW1 : (w.setCell ⟨b, 1, none⟩ (.int .i64 (P : Int))).drew = W1 at *
 clear hW1
 obtain ⟨⟨c0, c1, c2, c3⟩, f1, f2, f3⟩ := HR1.out.cells
 have w5 : (P : Int) ≤ (s.size : Int) := by omega
 go_wp2_with fail
 go_region
 rw [hR.out]
 go_wp2_with fail
 refine (BG.out _ ⟨v, HR1.out.drew⟩).mono ?_
 rintro e w7 ⟨rfl, hb7⟩
 have HR7 := kH (HR1.out.drew.below hb7 (Nat.le_refl _))
 have HB7 := kH (HB1.out.drew.trans (hb7.mono (Nat.le_of_lt HR1.out.drew.lt)))
 clear hb7
 go_wp2_with fail
 refine (QS.out _ ⟨v, HR7.out⟩).mono ?_
 rintro e w8 h9
 have HB9 := HB7
 obtain ⟨r, rfl, h9⟩ := StPost.form h9
 have H9 := kH h9
 clear h9
 go_wp2_with fail
 go_ret
 exact H9.out.start HB9.out
set_option maxHeartbeats 4000000 in
set_option maxRecDepth 100000 in
theorem token_div (b : Nat) (s : ByteArray) (p m P : Nat) (l : List Tok) (v : Value) (R : ByteArray) (X : St) (w : World) (h : RsV b w s p false l v) (hs : s.size ≤ 10000) (_hl : l.length ≤ 100000) (hP : P = p + m) (hp : P ≤ s.size)
  (BL : Hid (∀ W, Calls Tryz.prog 26 #[.string (s.extract p s.size)] W fun e w' => e = .returned (.int .i64 (m : Int)) ∧ w' = W)) (hR : Hid (s.extract P s.size = R))
  (he : R.toList.isEmpty = false) (hz : 0 < R.size) (h1 : (R[0].toNat : Int) = 47) (BG : Hid (∀ W, Rs b W s P false l → Calls Tryz.prog 29 #[.pointer (some ⟨b, 0, none⟩)] W fun e w' => e = .returned (.bool false) ∧ Below W.heap.size W w')) (IL : Hid (∀ W, Calls Tryz.prog 31 #[.int .u8 47] W fun e w' => e = .returned (.bool false) ∧ w' = W)) (NS : Hid (∀ W, Rs b W s P false l → Calls Tryz.prog 34 #[.pointer (some ⟨b, 0, none⟩), .string R] W (StPost b s P l W X))) :
  Calls Tryz.prog 19 #[.pointer (some ⟨b, 0, none⟩)] w (StPost b s P l w X) := by
 have HC0 := kH h.cells
 have HR1 := kH ((h.setAt P).drew)
 have HB1 := kH ((Below.refl b w).setCell (p := ⟨b, 1, none⟩) (Nat.le_refl b) (.int .i64 (P : Int))).drew
 have hlt := h.lt
 clear h
 have w1 : IntKind.i64.wrap (P : Int) = (P : Int) := by rw [IntKind.wrap_i64]; omega
 have w3 : (p : Int) + (m : Int) = (P : Int) := by omega
 have w2 : (p : Int) ≤ (s.size : Int) := by omega
 have HP := kH hP
 clear hP
 go_enter Tryz.func19, Tryz.ntmps19
 go_wp2_with fail
 refine wp_region_L (st := [17]) (S := fun w' => RC b s p false v w') (by kernel_rfl) (HC0.out.drew) (fun hHeld => ?_)
 refine tkL 0 (v := ?_) rfl ?_ ?_
 rotate_left
 ·
  (intro w hSw; obtain ⟨⟨q0, q1, q2, q3⟩, k1, k2, k3⟩ := hSw; go_simp; try with_reducible rfl)
 try simp only [nrm]
 refine tkL 1 (v := ?_) rfl ?_ ?_
 rotate_left
 ·
  (intro w hSw; obtain ⟨⟨q0, q1, q2, q3⟩, k1, k2, k3⟩ := hSw; go_simp; try with_reducible rfl)
 try simp only [nrm]
 refine tkL 2 (v := ?_) rfl ?_ ?_
 rotate_left
 ·
  (intro w hSw; obtain ⟨⟨q0, q1, q2, q3⟩, k1, k2, k3⟩ := hSw; go_simp; try with_reducible rfl)
 try simp only [nrm]
 refine tkL 3 (v := ?_) rfl ?_ ?_
 rotate_left
 ·
  (intro w hSw; obtain ⟨⟨q0, q1, q2, q3⟩, k1, k2, k3⟩ := hSw; go_simp; try with_reducible rfl)
 try simp only [nrm]
 refine tkL 4 (v := ?_) rfl ?_ ?_
 rotate_left
 ·
  (intro w hSw; obtain ⟨⟨q0, q1, q2, q3⟩, k1, k2, k3⟩ := hSw; go_simp; try with_reducible rfl)
 try simp only [nrm]
 refine tkL 5 (v := ?_) rfl ?_ ?_
 rotate_left
 ·
  (intro w hSw; obtain ⟨⟨q0, q1, q2, q3⟩, k1, k2, k3⟩ := hSw; go_simp; try with_reducible rfl)
 try simp only [nrm]
 refine tkL 6 (v := ?_) rfl ?_ ?_
 rotate_left
 ·
  (intro w hSw; obtain ⟨⟨q0, q1, q2, q3⟩, k1, k2, k3⟩ := hSw; go_simp; try with_reducible rfl)
 try simp only [nrm]
 refine tkL 7 (v := ?_) rfl ?_ ?_
 rotate_left
 ·
  (intro w hSw; obtain ⟨⟨q0, q1, q2, q3⟩, k1, k2, k3⟩ := hSw; go_simp; try with_reducible rfl)
 try simp only [nrm]
 refine tkL 8 (v := ?_) rfl ?_ ?_
 rotate_left
 ·
  (intro w hSw; obtain ⟨⟨q0, q1, q2, q3⟩, k1, k2, k3⟩ := hSw; go_simp; try with_reducible rfl)
 try simp only [nrm]
 refine tkL 9 (v := ?_) rfl ?_ ?_
 rotate_left
 ·
  (intro w hSw; obtain ⟨⟨q0, q1, q2, q3⟩, k1, k2, k3⟩ := hSw; go_simp; try with_reducible rfl)
 try simp only [nrm]
 refine tkL 10 (v := ?_) rfl ?_ ?_
 rotate_left
 ·
  (intro w hSw; obtain ⟨⟨q0, q1, q2, q3⟩, k1, k2, k3⟩ := hSw; go_simp; try with_reducible rfl)
 try simp only [nrm]
 refine tkL 11 (v := ?_) rfl ?_ ?_
 rotate_left
 ·
  (intro w hSw; obtain ⟨⟨q0, q1, q2, q3⟩, k1, k2, k3⟩ := hSw; go_simp; try with_reducible rfl)
 try simp only [nrm]
 refine tkL 12 (v := ?_) rfl ?_ ?_
 rotate_left
 ·
  (intro w hSw; obtain ⟨⟨q0, q1, q2, q3⟩, k1, k2, k3⟩ := hSw; go_simp; try with_reducible rfl)
 try simp only [nrm]
 refine rdL 13 rfl (fun K hK => ?_)
 go_simp
 refine (BL.out _).mono ?_
 rintro e w8 ⟨rfl, rfl⟩
 go_simp
 refine hK.out _ _ (hHeld) (fun hHeld => ?_)
 clear hK K
 try simp only [nrm]
 refine tkL 14 (v := ?_) rfl ?_ ?_
 rotate_left
 ·
  (intro w hSw; obtain ⟨⟨q0, q1, q2, q3⟩, k1, k2, k3⟩ := hSw; go_simp; try with_reducible rfl)
 try simp only [nrm]
 refine tkL 15 (v := ?_) rfl ?_ ?_
 rotate_left
 ·
  (intro w hSw; obtain ⟨⟨q0, q1, q2, q3⟩, k1, k2, k3⟩ := hSw; go_simp; try with_reducible rfl)
 try simp only [nrm]
 refine tkL 16 (v := ?_) rfl ?_ ?_
 rotate_left
 ·
  (intro w hSw; obtain ⟨⟨q0, q1, q2, q3⟩, k1, k2, k3⟩ := hSw; go_simp; try with_reducible rfl)
 try simp only [nrm]
 obtain ⟨⟨q0, q1, q2, q3⟩, k1, k2, k3⟩ := hHeld
 refine wpAnyL_ready (rs := [17]) (by kernel_rfl) (by simp) ?_
 refine AllReadyL.store (o := _) rfl (by decide) (by decide) (fun K hK => ?_) AllReadyL.nil
 go_simp
 refine hK.out _ _ ?_
 clear hK K
 try simp only [nrm]
 refine wpAnyL_done (by kernel_rfl) ?_ _
 clear q0 q1 q2 q3 k1 k2 k3 w1 w3
 generalize hW1 : (w.setCell ⟨b, 1, none⟩ (.int .i64 (P : Int))).drew = W1 at *
 clear hW1
 obtain ⟨⟨c0, c1, c2, c3⟩, f1, f2, f3⟩ := HR1.out.cells
 have w5 : (P : Int) ≤ (s.size : Int) := by omega
 go_wp2_with fail
 go_region
 rw [hR.out]
 go_wp2_with fail
 refine (BG.out _ ⟨v, HR1.out.drew⟩).mono ?_
 rintro e w7 ⟨rfl, hb7⟩
 have HR7 := kH (HR1.out.drew.below hb7 (Nat.le_refl _))
 have HB7 := kH (HB1.out.drew.trans (hb7.mono (Nat.le_of_lt HR1.out.drew.lt)))
 clear hb7
 go_wp2_with fail
 refine (IL.out _).mono ?_
 rintro e w8 ⟨rfl, rfl⟩
 go_wp2_with fail
 refine (NS.out _ ⟨v, HR7.out⟩).mono ?_
 rintro e w8 h9
 have HB9 := HB7
 obtain ⟨r, rfl, h9⟩ := StPost.form h9
 have H9 := kH h9
 clear h9
 go_wp2_with fail
 go_ret
 exact H9.out.start HB9.out
set_option maxHeartbeats 4000000 in
set_option maxRecDepth 100000 in
theorem token_other (b : Nat) (s : ByteArray) (p m P : Nat) (l : List Tok) (v : Value) (R : ByteArray) (X : St) (w : World) (h : RsV b w s p false l v) (hs : s.size ≤ 10000) (_hl : l.length ≤ 100000) (hP : P = p + m) (hp : P ≤ s.size)
  (BL : Hid (∀ W, Calls Tryz.prog 26 #[.string (s.extract p s.size)] W fun e w' => e = .returned (.int .i64 (m : Int)) ∧ w' = W)) (hR : Hid (s.extract P s.size = R))
  (he : R.toList.isEmpty = false) (hz : 0 < R.size) (n1 : ¬ (R[0].toNat : Int) = 10) (n2 : ¬ (R[0].toNat : Int) = 34) (n3 : ¬ (R[0].toNat : Int) = 47) (IL : Hid (∀ W, Calls Tryz.prog 31 #[.int .u8 (R[0].toNat : Int)] W fun e w' => e = .returned (.bool false) ∧ w' = W)) (NS : Hid (∀ W, Rs b W s P false l → Calls Tryz.prog 34 #[.pointer (some ⟨b, 0, none⟩), .string R] W (StPost b s P l W X))) :
  Calls Tryz.prog 19 #[.pointer (some ⟨b, 0, none⟩)] w (StPost b s P l w X) := by
 have HC0 := kH h.cells
 have HR1 := kH ((h.setAt P).drew)
 have HB1 := kH ((Below.refl b w).setCell (p := ⟨b, 1, none⟩) (Nat.le_refl b) (.int .i64 (P : Int))).drew
 have hlt := h.lt
 clear h
 have w1 : IntKind.i64.wrap (P : Int) = (P : Int) := by rw [IntKind.wrap_i64]; omega
 have w3 : (p : Int) + (m : Int) = (P : Int) := by omega
 have w2 : (p : Int) ≤ (s.size : Int) := by omega
 have HP := kH hP
 clear hP
 go_enter Tryz.func19, Tryz.ntmps19
 go_wp2_with fail
 refine wp_region_L (st := [17]) (S := fun w' => RC b s p false v w') (by kernel_rfl) (HC0.out.drew) (fun hHeld => ?_)
 refine tkL 0 (v := ?_) rfl ?_ ?_
 rotate_left
 ·
  (intro w hSw; obtain ⟨⟨q0, q1, q2, q3⟩, k1, k2, k3⟩ := hSw; go_simp; try with_reducible rfl)
 try simp only [nrm]
 refine tkL 1 (v := ?_) rfl ?_ ?_
 rotate_left
 ·
  (intro w hSw; obtain ⟨⟨q0, q1, q2, q3⟩, k1, k2, k3⟩ := hSw; go_simp; try with_reducible rfl)
 try simp only [nrm]
 refine tkL 2 (v := ?_) rfl ?_ ?_
 rotate_left
 ·
  (intro w hSw; obtain ⟨⟨q0, q1, q2, q3⟩, k1, k2, k3⟩ := hSw; go_simp; try with_reducible rfl)
 try simp only [nrm]
 refine tkL 3 (v := ?_) rfl ?_ ?_
 rotate_left
 ·
  (intro w hSw; obtain ⟨⟨q0, q1, q2, q3⟩, k1, k2, k3⟩ := hSw; go_simp; try with_reducible rfl)
 try simp only [nrm]
 refine tkL 4 (v := ?_) rfl ?_ ?_
 rotate_left
 ·
  (intro w hSw; obtain ⟨⟨q0, q1, q2, q3⟩, k1, k2, k3⟩ := hSw; go_simp; try with_reducible rfl)
 try simp only [nrm]
 refine tkL 5 (v := ?_) rfl ?_ ?_
 rotate_left
 ·
  (intro w hSw; obtain ⟨⟨q0, q1, q2, q3⟩, k1, k2, k3⟩ := hSw; go_simp; try with_reducible rfl)
 try simp only [nrm]
 refine tkL 6 (v := ?_) rfl ?_ ?_
 rotate_left
 ·
  (intro w hSw; obtain ⟨⟨q0, q1, q2, q3⟩, k1, k2, k3⟩ := hSw; go_simp; try with_reducible rfl)
 try simp only [nrm]
 refine tkL 7 (v := ?_) rfl ?_ ?_
 rotate_left
 ·
  (intro w hSw; obtain ⟨⟨q0, q1, q2, q3⟩, k1, k2, k3⟩ := hSw; go_simp; try with_reducible rfl)
 try simp only [nrm]
 refine tkL 8 (v := ?_) rfl ?_ ?_
 rotate_left
 ·
  (intro w hSw; obtain ⟨⟨q0, q1, q2, q3⟩, k1, k2, k3⟩ := hSw; go_simp; try with_reducible rfl)
 try simp only [nrm]
 refine tkL 9 (v := ?_) rfl ?_ ?_
 rotate_left
 ·
  (intro w hSw; obtain ⟨⟨q0, q1, q2, q3⟩, k1, k2, k3⟩ := hSw; go_simp; try with_reducible rfl)
 try simp only [nrm]
 refine tkL 10 (v := ?_) rfl ?_ ?_
 rotate_left
 ·
  (intro w hSw; obtain ⟨⟨q0, q1, q2, q3⟩, k1, k2, k3⟩ := hSw; go_simp; try with_reducible rfl)
 try simp only [nrm]
 refine tkL 11 (v := ?_) rfl ?_ ?_
 rotate_left
 ·
  (intro w hSw; obtain ⟨⟨q0, q1, q2, q3⟩, k1, k2, k3⟩ := hSw; go_simp; try with_reducible rfl)
 try simp only [nrm]
 refine tkL 12 (v := ?_) rfl ?_ ?_
 rotate_left
 ·
  (intro w hSw; obtain ⟨⟨q0, q1, q2, q3⟩, k1, k2, k3⟩ := hSw; go_simp; try with_reducible rfl)
 try simp only [nrm]
 refine rdL 13 rfl (fun K hK => ?_)
 go_simp
 refine (BL.out _).mono ?_
 rintro e w8 ⟨rfl, rfl⟩
 go_simp
 refine hK.out _ _ (hHeld) (fun hHeld => ?_)
 clear hK K
 try simp only [nrm]
 refine tkL 14 (v := ?_) rfl ?_ ?_
 rotate_left
 ·
  (intro w hSw; obtain ⟨⟨q0, q1, q2, q3⟩, k1, k2, k3⟩ := hSw; go_simp; try with_reducible rfl)
 try simp only [nrm]
 refine tkL 15 (v := ?_) rfl ?_ ?_
 rotate_left
 ·
  (intro w hSw; obtain ⟨⟨q0, q1, q2, q3⟩, k1, k2, k3⟩ := hSw; go_simp; try with_reducible rfl)
 try simp only [nrm]
 refine tkL 16 (v := ?_) rfl ?_ ?_
 rotate_left
 ·
  (intro w hSw; obtain ⟨⟨q0, q1, q2, q3⟩, k1, k2, k3⟩ := hSw; go_simp; try with_reducible rfl)
 try simp only [nrm]
 obtain ⟨⟨q0, q1, q2, q3⟩, k1, k2, k3⟩ := hHeld
 refine wpAnyL_ready (rs := [17]) (by kernel_rfl) (by simp) ?_
 refine AllReadyL.store (o := _) rfl (by decide) (by decide) (fun K hK => ?_) AllReadyL.nil
 go_simp
 refine hK.out _ _ ?_
 clear hK K
 try simp only [nrm]
 refine wpAnyL_done (by kernel_rfl) ?_ _
 clear q0 q1 q2 q3 k1 k2 k3 w1 w3
 generalize hW1 : (w.setCell ⟨b, 1, none⟩ (.int .i64 (P : Int))).drew = W1 at *
 clear hW1
 obtain ⟨⟨c0, c1, c2, c3⟩, f1, f2, f3⟩ := HR1.out.cells
 have w5 : (P : Int) ≤ (s.size : Int) := by omega
 go_wp2_with fail
 go_region
 rw [hR.out]
 go_wp2_with fail
 refine (IL.out _).mono ?_
 rintro e w8 ⟨rfl, rfl⟩
 go_wp2_with fail
 refine (NS.out _ ⟨v, HR1.out.drew⟩).mono ?_
 rintro e w8 h9
 have HB9 := kH HB1.out.drew
 obtain ⟨r, rfl, h9⟩ := StPost.form h9
 have H9 := kH h9
 clear h9
 go_wp2_with fail
 go_ret
 exact H9.out.start HB9.out
set_option maxHeartbeats 4000000 in
set_option maxRecDepth 100000 in
theorem token_name (b : Nat) (s : ByteArray) (p m P : Nat) (l : List Tok) (v : Value) (R : ByteArray) (X : St) (w : World) (h : RsV b w s p false l v) (hs : s.size ≤ 10000) (_hl : l.length ≤ 100000) (hP : P = p + m) (hp : P ≤ s.size)
  (BL : Hid (∀ W, Calls Tryz.prog 26 #[.string (s.extract p s.size)] W fun e w' => e = .returned (.int .i64 (m : Int)) ∧ w' = W)) (hR : Hid (s.extract P s.size = R))
  (n kd : Nat) (T : List UInt8) (he : R.toList.isEmpty = false) (hz : 0 < R.size) (n1 : ¬ (R[0].toNat : Int) = 10) (n2 : ¬ (R[0].toNat : Int) = 34) (n3 : ¬ (R[0].toNat : Int) = 47) (hn : n ≤ R.size) (_hRs : R.size ≤ 10000) (IL : Hid (∀ W, Calls Tryz.prog 31 #[.int .u8 (R[0].toNat : Int)] W fun e w' => e = .returned (.bool true) ∧ w' = W)) (NM : Hid (∀ W, Calls Tryz.prog 32 #[.string R] W fun e w' => e = .returned (.int .i64 (n : Int)) ∧ w' = W)) (KD : Hid (∀ W, Calls Tryz.prog 33 #[.string (R.extract 0 n), .string (R.extract n R.size)] W fun e w' => e = .returned (.int .i64 (kd : Int)) ∧ w' = W)) (AD : Hid (∀ W, Rs b W s P false l → Calls Tryz.prog 20 #[.pointer (some ⟨b, 0, none⟩), .int .i64 (kd : Int), .string (R.extract 0 n), .int .i64 (n : Int)] W (AdPost b s (P + n) false (l ++ [⟨kd, T, P⟩]) W))) (hX : X = .tok kd T n) :
  Calls Tryz.prog 19 #[.pointer (some ⟨b, 0, none⟩)] w (StPost b s P l w X) := by
 have HC0 := kH h.cells
 have HR1 := kH ((h.setAt P).drew)
 have HB1 := kH ((Below.refl b w).setCell (p := ⟨b, 1, none⟩) (Nat.le_refl b) (.int .i64 (P : Int))).drew
 have hlt := h.lt
 clear h
 have w1 : IntKind.i64.wrap (P : Int) = (P : Int) := by rw [IntKind.wrap_i64]; omega
 have w3 : (p : Int) + (m : Int) = (P : Int) := by omega
 have w2 : (p : Int) ≤ (s.size : Int) := by omega
 have HP := kH hP
 clear hP
 go_enter Tryz.func19, Tryz.ntmps19
 go_wp2_with fail
 refine wp_region_L (st := [17]) (S := fun w' => RC b s p false v w') (by kernel_rfl) (HC0.out.drew) (fun hHeld => ?_)
 refine tkL 0 (v := ?_) rfl ?_ ?_
 rotate_left
 ·
  (intro w hSw; obtain ⟨⟨q0, q1, q2, q3⟩, k1, k2, k3⟩ := hSw; go_simp; try with_reducible rfl)
 try simp only [nrm]
 refine tkL 1 (v := ?_) rfl ?_ ?_
 rotate_left
 ·
  (intro w hSw; obtain ⟨⟨q0, q1, q2, q3⟩, k1, k2, k3⟩ := hSw; go_simp; try with_reducible rfl)
 try simp only [nrm]
 refine tkL 2 (v := ?_) rfl ?_ ?_
 rotate_left
 ·
  (intro w hSw; obtain ⟨⟨q0, q1, q2, q3⟩, k1, k2, k3⟩ := hSw; go_simp; try with_reducible rfl)
 try simp only [nrm]
 refine tkL 3 (v := ?_) rfl ?_ ?_
 rotate_left
 ·
  (intro w hSw; obtain ⟨⟨q0, q1, q2, q3⟩, k1, k2, k3⟩ := hSw; go_simp; try with_reducible rfl)
 try simp only [nrm]
 refine tkL 4 (v := ?_) rfl ?_ ?_
 rotate_left
 ·
  (intro w hSw; obtain ⟨⟨q0, q1, q2, q3⟩, k1, k2, k3⟩ := hSw; go_simp; try with_reducible rfl)
 try simp only [nrm]
 refine tkL 5 (v := ?_) rfl ?_ ?_
 rotate_left
 ·
  (intro w hSw; obtain ⟨⟨q0, q1, q2, q3⟩, k1, k2, k3⟩ := hSw; go_simp; try with_reducible rfl)
 try simp only [nrm]
 refine tkL 6 (v := ?_) rfl ?_ ?_
 rotate_left
 ·
  (intro w hSw; obtain ⟨⟨q0, q1, q2, q3⟩, k1, k2, k3⟩ := hSw; go_simp; try with_reducible rfl)
 try simp only [nrm]
 refine tkL 7 (v := ?_) rfl ?_ ?_
 rotate_left
 ·
  (intro w hSw; obtain ⟨⟨q0, q1, q2, q3⟩, k1, k2, k3⟩ := hSw; go_simp; try with_reducible rfl)
 try simp only [nrm]
 refine tkL 8 (v := ?_) rfl ?_ ?_
 rotate_left
 ·
  (intro w hSw; obtain ⟨⟨q0, q1, q2, q3⟩, k1, k2, k3⟩ := hSw; go_simp; try with_reducible rfl)
 try simp only [nrm]
 refine tkL 9 (v := ?_) rfl ?_ ?_
 rotate_left
 ·
  (intro w hSw; obtain ⟨⟨q0, q1, q2, q3⟩, k1, k2, k3⟩ := hSw; go_simp; try with_reducible rfl)
 try simp only [nrm]
 refine tkL 10 (v := ?_) rfl ?_ ?_
 rotate_left
 ·
  (intro w hSw; obtain ⟨⟨q0, q1, q2, q3⟩, k1, k2, k3⟩ := hSw; go_simp; try with_reducible rfl)
 try simp only [nrm]
 refine tkL 11 (v := ?_) rfl ?_ ?_
 rotate_left
 ·
  (intro w hSw; obtain ⟨⟨q0, q1, q2, q3⟩, k1, k2, k3⟩ := hSw; go_simp; try with_reducible rfl)
 try simp only [nrm]
 refine tkL 12 (v := ?_) rfl ?_ ?_
 rotate_left
 ·
  (intro w hSw; obtain ⟨⟨q0, q1, q2, q3⟩, k1, k2, k3⟩ := hSw; go_simp; try with_reducible rfl)
 try simp only [nrm]
 refine rdL 13 rfl (fun K hK => ?_)
 go_simp
 refine (BL.out _).mono ?_
 rintro e w8 ⟨rfl, rfl⟩
 go_simp
 refine hK.out _ _ (hHeld) (fun hHeld => ?_)
 clear hK K
 try simp only [nrm]
 refine tkL 14 (v := ?_) rfl ?_ ?_
 rotate_left
 ·
  (intro w hSw; obtain ⟨⟨q0, q1, q2, q3⟩, k1, k2, k3⟩ := hSw; go_simp; try with_reducible rfl)
 try simp only [nrm]
 refine tkL 15 (v := ?_) rfl ?_ ?_
 rotate_left
 ·
  (intro w hSw; obtain ⟨⟨q0, q1, q2, q3⟩, k1, k2, k3⟩ := hSw; go_simp; try with_reducible rfl)
 try simp only [nrm]
 refine tkL 16 (v := ?_) rfl ?_ ?_
 rotate_left
 ·
  (intro w hSw; obtain ⟨⟨q0, q1, q2, q3⟩, k1, k2, k3⟩ := hSw; go_simp; try with_reducible rfl)
 try simp only [nrm]
 obtain ⟨⟨q0, q1, q2, q3⟩, k1, k2, k3⟩ := hHeld
 refine wpAnyL_ready (rs := [17]) (by kernel_rfl) (by simp) ?_
 refine AllReadyL.store (o := _) rfl (by decide) (by decide) (fun K hK => ?_) AllReadyL.nil
 go_simp
 refine hK.out _ _ ?_
 clear hK K
 try simp only [nrm]
 refine wpAnyL_done (by kernel_rfl) ?_ _
 clear q0 q1 q2 q3 k1 k2 k3 w1 w3
 generalize hW1 : (w.setCell ⟨b, 1, none⟩ (.int .i64 (P : Int))).drew = W1 at *
 clear hW1
 obtain ⟨⟨c0, c1, c2, c3⟩, f1, f2, f3⟩ := HR1.out.cells
 have w5 : (P : Int) ≤ (s.size : Int) := by omega
 go_wp2_with fail
 go_region
 rw [hR.out]
 subst hX
 have e1 : (n : Int) ≤ (R.size : Int) := by omega
 go_wp2_with fail
 refine (IL.out _).mono ?_
 rintro e w8 ⟨rfl, rfl⟩
 go_wp2_with fail
 refine (NM.out _).mono ?_
 rintro e w8 ⟨rfl, rfl⟩
 go_wp2_with fail
 have HR5 := kH HR1.out.drew.drew
 have HB5 := kH HB1.out.drew.drew
 generalize W1.drew = W5 at *
 refine wp_region_L (st := [12]) (S := fun w' => True) (by kernel_rfl) (trivial) (fun hHeld => ?_)
 refine tkL 0 (v := ?_) rfl ?_ ?_
 rotate_left
 ·
  (intro w hSw; go_simp; try with_reducible rfl)
 try simp only [nrm]
 refine tkL 1 (v := ?_) rfl ?_ ?_
 rotate_left
 ·
  (intro w hSw; go_simp; try with_reducible rfl)
 try simp only [nrm]
 refine tkL 2 (v := ?_) rfl ?_ ?_
 rotate_left
 ·
  (intro w hSw; go_simp; try with_reducible rfl)
 try simp only [nrm]
 refine tkL 3 (v := ?_) rfl ?_ ?_
 rotate_left
 ·
  (intro w hSw; go_simp; try with_reducible rfl)
 try simp only [nrm]
 refine tkL 4 (v := ?_) rfl ?_ ?_
 rotate_left
 ·
  (intro w hSw; go_simp; try with_reducible rfl)
 try simp only [nrm]
 refine tkL 5 (v := ?_) rfl ?_ ?_
 rotate_left
 ·
  (intro w hSw; go_simp; try with_reducible rfl)
 try simp only [nrm]
 refine tkL 6 (v := ?_) rfl ?_ ?_
 rotate_left
 ·
  (intro w hSw; go_simp; try with_reducible rfl)
 try simp only [nrm]
 refine tkL 8 (v := ?_) rfl ?_ ?_
 rotate_left
 ·
  (intro w hSw; go_simp; try with_reducible rfl)
 try simp only [nrm]
 refine tkL 9 (v := ?_) rfl ?_ ?_
 rotate_left
 ·
  (intro w hSw; go_simp; try with_reducible rfl)
 try simp only [nrm]
 refine tkL 10 (v := ?_) rfl ?_ ?_
 rotate_left
 ·
  (intro w hSw; go_simp; try with_reducible rfl)
 try simp only [nrm]
 refine tkL 11 (v := ?_) rfl ?_ ?_
 rotate_left
 ·
  (intro w hSw; go_simp; try with_reducible rfl)
 try simp only [nrm]
 refine rdL 7 rfl (fun K hK => ?_)
 go_simp
 refine (KD.out _).mono ?_
 rintro e w8 ⟨rfl, rfl⟩
 go_simp
 refine hK.out _ _ (trivial) (fun hHeld => ?_)
 clear hK K
 try simp only [nrm]
 refine wpAnyL_ready (rs := [12]) (by kernel_rfl) (by simp) ?_
 refine AllReadyL.store (o := _) rfl (by decide) (by decide) (fun K hK => ?_) AllReadyL.nil
 go_simp
 refine (AD.out _ ⟨v, HR5.out⟩).mono ?_
 rintro e w9 ⟨rfl, hr9, hb9⟩
 have HR9 := kH hr9
 have HB9 := kH (HB5.out.trans hb9)
 clear hr9 hb9
 go_simp
 refine hK.out _ _ ?_
 clear hK K
 try simp only [nrm]
 refine wpAnyL_done (by kernel_rfl) ?_ _
 go_wp2_with fail
 go_ret
 exact ⟨⟨rfl, HR9.out⟩, HB9.out⟩
end Go.Proofs.YtmbfdkiejneheaaGreatDoor
