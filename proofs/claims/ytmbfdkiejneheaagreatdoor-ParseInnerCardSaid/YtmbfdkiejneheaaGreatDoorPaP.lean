/-
 MATHEMATICS of layer 13: where tokens stand makes no difference but for the places told.
-/
import Derived.Test.YtmbfdkiejneheaaGreatDoorLxR4
import Derived.Test.YtmbfdkiejneheaaGreatDoorPaN
import Derived.Test.YtmbfdkiejneheaaGreatDoorAnM
namespace Go.Proofs.YtmbfdkiejneheaaGreatDoor
open Go.RowKit

theorem strEsc_len (d : UInt8) : (strEsc d).length ≤ 2 := by
 unfold strEsc
 split
 ·
  simp
 ·
  split
  ·
   simp
  ·
   split <;> simp
theorem reEsc_len (d : UInt8) : (reEsc d).length ≤ 2 := by
 unfold reEsc
 split
 ·
  simp
 ·
  split <;> simp
theorem token_any (b : Nat) (s : ByteArray) (p : Nat) (l : List Tok) (w : World) (h : Rs b w s p false l) (hs : s.size ≤ 10000) (hl : l.length ≤ 100000) (hp : p ≤ s.size) :
  Calls Tryz.prog 19 #[.pointer (some ⟨b, 0, none⟩)] w (StPost b s (p + blankL (s.data.toList.drop p)) l w (stepL (rxL l) ((s.data.toList.drop p).drop (blankL (s.data.toList.drop p))))) := by
 obtain ⟨v, h⟩ := h
 have hm := blank_le (s.data.toList.drop p)
 rw [List.length_drop, ba_sz] at hm
 have BL : Hid (∀ W, Calls Tryz.prog 26 #[.string (s.extract p s.size)] W fun e w' => e = .returned (.int .i64 (blankL (s.data.toList.drop p) : Nat)) ∧ w' = W) := kH fun W => by
  have := blank_any (s.extract p s.size) W (by simp; omega)
  rw [extk] at this; exact this
 rw [List.drop_drop]
 generalize blankL (s.data.toList.drop p) = m at *
 obtain ⟨P, hP⟩ : ∃ P, P = p + m := ⟨_, rfl⟩
 rw [← hP]
 have hpP : P ≤ s.size := by omega
 by_cases hz : P < s.size
 ·
  have hR : (s.extract P s.size).data.toList = s.data.toList.drop P := extk s P
  have hRz : (s.extract P s.size).size = s.size - P := by simp
  have hR1 : Hid (s.extract P s.size = s.extract P s.size) := kH rfl
  have hl0 : s.data.toList.drop P = s[P] :: s.data.toList.drop (P + 1) := drop_at s P hz
  rw [hl0, step_cons, ← hl0]
  have hR0 : ∀ h : 0 < (s.extract P s.size).size, (s.extract P s.size)[0] = s[P] := by
   intro h
   have h1 := drop_at (s.extract P s.size) 0 h
   rw [List.drop_zero, hR, hl0] at h1
   exact (List.cons.inj h1).1.symm
  have hz2 : 0 < (s.extract P s.size).size := by omega
  have he : (s.extract P s.size).toList.isEmpty = false := by rw [ByteArray.toList_eq, hR, hl0]; rfl
  have hc0 := hR0 hz2
  have IL : Hid (∀ W, Calls Tryz.prog 31 #[.int .u8 ((s.extract P s.size)[0].toNat : Int)] W fun e w' => e = .returned (.bool (isLt s[P])) ∧ w' = W) := kH fun W => by rw [hc0]; exact islt_any _ W
  have NS : Hid (∀ W, Rs b W s P false l → Calls Tryz.prog 34 #[.pointer (some ⟨b, 0, none⟩), .string (s.extract P s.size)] W (StPost b s P l W (nosL (s.data.toList.drop P)))) := kH fun W h => by
   have := nos_any b s P l (s.extract P s.size) W h (by omega) hl (by omega)
   rw [hR] at this; exact this
  have BG := kH (fun W (h : Rs b W s P false l) => begins_any b s P false l W h hl)
  by_cases c1 : s[P] = 10
  ·
   rw [if_pos c1]
   exact token_nl b s p m P l v _ _ w h hs hl hP hpP BL hR1 he hz2 (by rw [hc0, c1]; rfl) rfl
  rw [if_neg c1]
  by_cases c2 : s[P] = 34
  ·
   rw [if_pos c2]
   refine token_str b s p m P l v _ _ w h hs hl hP hpP BL hR1 he hz2 (by rw [hc0, c2]; rfl) (kH fun W h => ?_)
   exact quoted_str b s P l 3 strEsc 34 W h hs hl hz c2 strEsc_len sesc_any
  rw [if_neg c2]
  have n1 : ¬ ((s.extract P s.size)[0].toNat : Int) = 10 := fun e => c1 (hc0 ▸ nat_of (by decide) e)
  have n2 : ¬ ((s.extract P s.size)[0].toNat : Int) = 34 := fun e => c2 (hc0 ▸ nat_of (by decide) e)
  by_cases c3 : s[P] = 47
  ·
   cases hrx : rxL l with
   | true =>
    rw [hrx] at BG
    rw [if_pos ⟨c3, rfl⟩]
    refine token_re b s p m P l v _ _ w h hs hl hP hpP BL hR1 he hz2 (by rw [hc0, c3]; rfl) BG (kH fun W h => ?_)
    exact quoted_re b s P l 4 reEsc 47 W h hs hl hz c3 reEsc_len resc_any
   | false =>
    rw [hrx] at BG
    rw [if_neg (fun h => by cases h.2), if_neg (by rw [c3]; decide)]
    exact token_div b s p m P l v _ _ w h hs hl hP hpP BL hR1 he hz2 (by rw [hc0, c3]; rfl) BG (kH fun W => by have := islt_any 47 W; exact this) NS
  rw [if_neg (fun h => c3 h.1)]
  have n3 : ¬ ((s.extract P s.size)[0].toNat : Int) = 47 := fun e => c3 (hc0 ▸ nat_of (by decide) e)
  cases hlt : isLt s[P] with
  | false =>
   rw [hlt] at IL
   rw [if_neg (by simp)]
   exact token_other b s p m P l v _ _ w h hs hl hP hpP BL hR1 he hz2 n1 n2 n3 IL NS
  | true =>
   rw [hlt] at IL
   rw [if_pos rfl]
   have hn := nm_le (s.data.toList.drop P)
   rw [List.length_drop, ba_sz] at hn
   have h0 := ext0 (s.extract P s.size) (nmL (s.data.toList.drop P))
   have h1 := extk (s.extract P s.size) (nmL (s.data.toList.drop P))
   rw [hR] at h0 h1
   refine token_name b s p m P l v _ _ w h hs hl hP hpP BL hR1 (nmL (s.data.toList.drop P)) (kindL ((s.data.toList.drop P).take (nmL (s.data.toList.drop P))) ((s.data.toList.drop P).drop (nmL (s.data.toList.drop P)))) ((s.data.toList.drop P).take (nmL (s.data.toList.drop P))) he hz2 n1 n2 n3 (by omega) (by omega) IL (kH fun W => ?_) (kH fun W => ?_) (kH fun W h => ?_) rfl
   ·
    have := nms_any (s.extract P s.size) W (by omega)
    rw [hR] at this; exact this
   ·
    have := kind_any ((s.extract P s.size).extract 0 (nmL (s.data.toList.drop P))) ((s.extract P s.size).extract (nmL (s.data.toList.drop P)) (s.extract P s.size).size) W
    rw [h0, h1] at this; exact this
   ·
    have := add_any b s P false l (kindL ((s.data.toList.drop P).take (nmL (s.data.toList.drop P))) ((s.data.toList.drop P).drop (nmL (s.data.toList.drop P)))) ((s.extract P s.size).extract 0 (nmL (s.data.toList.drop P))) (nmL (s.data.toList.drop P)) W h (by simp; omega) hl (by omega) (by omega)
    rw [h0] at this; exact this
 ·
  have hd := drop_end s P (by omega)
  rw [hd]
  refine token_eof b s p m P l v ⟨#[]⟩ _ w h hs hl hP hpP BL (kH ?_) (kH rfl) rfl
  exact WideShapes.bytes_inj (by rw [extk, hd])
end Go.Proofs.YtmbfdkiejneheaaGreatDoor

namespace Go.Proofs.YtmbfdkiejneheaaGreatDoor
open Go.RowKit

/-- The answer. -/
def LxPost (x : Except Nat (List Tok)) (n : Nat) (w : World) (e : Ending) (w' : World) : Prop :=
 (match x with
  | .ok l => ∃ g c, e = .returned (.tuple #[.slice (some ⟨g, 0, none⟩) (l.length + 1) c, .int .i64 0, .int .i64 0]) ∧ w'.ownsRow w.heap.size 60 3 (.slice (some ⟨g, 0, none⟩) (l.length + 1) c) (l.length + 1) (tokRow (l ++ [⟨0, [], n⟩]))
  | .error p => e = .returned (.tuple #[.slice none 0 0, .int .i64 (p : Int), .int .i64 9])) ∧ Below w.heap.size w w'
def posW (b : Nat) (w : World) : Nat := match w.cell? ⟨b, 1, none⟩ with
 | some (.int _ x) => x.toNat
 | _ => 0
theorem Rs.pos {b : Nat} {w : World} {s : ByteArray} {p : Nat} {bad : Bool} {l : List Tok} (h : Rs b w s p bad l) : posW b w = p := by
 obtain ⟨v, h⟩ := h
 unfold posW
 rw [h.cells.1.2.1]
 simp
theorem own_weak {w : World} {B C : Nat} {e : TypeId} {z : Nat} {v : Value} {n : Nat} {xs : List Value} (h : w.ownsRow B e z v n xs) (hC : C ≤ B) : w.ownsRow C e z v n xs := by
 refine ⟨h.1, ?_⟩
 rcases h.2 with h2 | ⟨g, cap, cur, hv, hg, r⟩
 ·
  exact .inl h2
 ·
  exact .inr ⟨g, cap, cur, hv, Nat.le_trans hC hg, r⟩
theorem step_eof {rx : Bool} {l : List UInt8} (h : stepL rx l = .eof) : l = [] := by
 cases l with
 | nil => rfl
 | cons c t =>
  exfalso
  rw [step_cons] at h
  have hq : ∀ k q, St.ofQ k q ≠ .eof := fun k q => by cases q <;> intro e <;> cases e
  split at h
  ·
   cases h
  split at h
  ·
   exact hq _ _ h
  split at h
  ·
   exact hq _ _ h
  split at h
  ·
   cases h
  split at h
  ·
   cases h
  split at h <;> cases h
set_option maxHeartbeats 2000000 in
set_option maxRecDepth 100000 in
theorem lex_any (s : ByteArray) (w : World) (hs : s.size ≤ 4000) :
  Calls Tryz.prog 15 #[.string s] w (LxPost (lexL s.data.toList) s.size w) := by
 have hs' : (s.size : Int) ≤ 4000 := by omega
 have H0 : Hid (lexL s.data.toList = (lexF (s.size + 1) (rxL []) 0 (s.data.toList.drop 0)).map (([] : List Tok) ++ ·)) := kH (by
  unfold lexL
  rw [ba_sz, List.drop_zero, show rxL [] = true from rfl]
  cases lexF (s.size + 1) true 0 s.data.toList <;> rfl)
 generalize lexL s.data.toList = X at *
 have HI : Hid (Rs w.heap.size (w.alloc (.cells #[.string s, .int .i64 0, .bool false, .slice none 0 0] 47)) s 0 false []) := kH ⟨_, by
  exact ⟨heap_alloc_new w _, World.ownsRow_nil _ _ _ _⟩⟩
 have HB : Hid (Below w.heap.size w (w.alloc (.cells #[.string s, .int .i64 0, .bool false, .slice none 0 0] 47))) := kH ((Below.refl _ _).alloc (Nat.le_refl _) _)
 go_enter Tryz.func15, Tryz.ntmps15
 go_wp2_with fail
 go_loopw [] (fun wr => ∃ (p : Nat) (l : List Tok), p ≤ s.size ∧ l.length ≤ p ∧ Hid (Rs w.heap.size wr s p false l ∧ Below w.heap.size w wr ∧ X = (lexF (s.size + 1) (rxL l) p (s.data.toList.drop p)).map (l ++ ·))) (fun wr => s.size - posW w.heap.size wr)
 case atStart => exact ⟨0, [], Nat.zero_le _, Nat.le_refl _, kH ⟨HI.out, HB.out, H0.out⟩⟩
 case round =>
  obtain ⟨p, l, hp, hl, HX⟩ := hrel
  obtain ⟨hr, hb, hx⟩ := HX.out
  have T := token_any w.heap.size s p l wr hr (by omega) (by omega) hp
  have hlt : w.heap.size < wr.heap.size := by obtain ⟨v, hv⟩ := hr; exact hv.lt
  have hpos := hr.pos
  have hm := blank_le (s.data.toList.drop p)
  have hdl : (s.data.toList.drop p).length = s.size - p := by rw [List.length_drop, ba_sz]
  have hdm : ((s.data.toList.drop p).drop (blankL (s.data.toList.drop p))).length = s.size - p - blankL (s.data.toList.drop p) := by rw [List.length_drop, hdl]
  rw [hdl] at hm
  have hsl := step_le (rxL l) ((s.data.toList.drop p).drop (blankL (s.data.toList.drop p)))
  rw [hdm] at hsl
  cases hst : stepL (rxL l) ((s.data.toList.drop p).drop (blankL (s.data.toList.drop p))) with
  | tok k t z =>
   obtain ⟨hz0, hz1⟩ := hsl.1 _ _ _ hst
   have hl1 := lexF_tok (n := s.size + 1) (p := p) hst (by omega)
   rw [hst] at T
   rw [hl1, List.drop_drop] at hx
   have HN : Hid (∀ w8, StPost w.heap.size s (p + blankL (s.data.toList.drop p)) l wr (.tok k t z) (.returned (.bool true)) w8 → Rs w.heap.size w8 s (p + blankL (s.data.toList.drop p) + z) false (l ++ [⟨k, t, p + blankL (s.data.toList.drop p)⟩]) ∧ Below w.heap.size w w8 ∧ X = (lexF (s.size + 1) (rxL (l ++ [⟨k, t, p + blankL (s.data.toList.drop p)⟩])) (p + blankL (s.data.toList.drop p) + z) (s.data.toList.drop (p + blankL (s.data.toList.drop p) + z))).map ((l ++ [⟨k, t, p + blankL (s.data.toList.drop p)⟩]) ++ ·)) := kH fun w8 h => by
    refine ⟨h.1.2, hb.trans h.2, ?_⟩
    rw [hx, rxL_snoc, Nat.add_assoc]
    cases lexF (s.size + 1) (rxA k t) (p + (blankL (s.data.toList.drop p) + z)) (s.data.toList.drop (p + (blankL (s.data.toList.drop p) + z))) with
    | error e => rfl
    | ok r => simp [Except.map]
   have HT := kH T
   generalize blankL (s.data.toList.drop p) = m at *
   clear T hx hl1 hst hsl hr hb HX
   go_wp2_with fail
   refine HT.out.mono ?_
   rintro e w8 h8
   obtain rfl : e = .returned (.bool true) := h8.1.1
   have hN := HN.out w8 h8
   have HN8 := kH hN
   have hp8 := hN.1.pos
   clear h8 hN HT HN
   go_wp2_with fail
   go_roundw
   case rel => exact ⟨p + m + z, l ++ [⟨k, t, p + m⟩], by omega, by rw [List.length_append]; simp; omega, HN8⟩
   case measure => rw [hp8, hpos]; omega
  | eof =>
   have he := step_eof hst
   rw [he] at hdm
   simp only [List.length_nil] at hdm
   have hl1 := lexF_eof (n := s.size + 1) (p := p) hst
   rw [hst] at T
   rw [hl1] at hx
   have hX : X = .ok l := by rw [hx]; simp [Except.map]
   have hP : p + blankL (s.data.toList.drop p) = s.size := by omega
   rw [hP] at T
   have HT := kH T
   have HX2 := kH hX
   have HB2 := kH hb
   have AD : Hid (∀ W, Rs w.heap.size W s s.size false l → Calls Tryz.prog 20 #[.pointer (some ⟨w.heap.size, 0, none⟩), .int .i64 0, .string ⟨#[]⟩, .int .i64 0] W (AdPost w.heap.size s (s.size + 0) false (l ++ [⟨0, [], s.size⟩]) W)) := kH fun W h => add_any w.heap.size s s.size false l 0 ⟨#[]⟩ 0 W h (by decide) (by omega) (by omega) (by omega)
   clear T hx hl1 hst hsl hr hb HX hX hP he hdm hm hdl
   go_wp2_with fail
   refine HT.out.mono ?_
   rintro e w8 h8
   obtain rfl : e = .returned (.bool false) := h8.1.1
   obtain ⟨v8, hr8⟩ := h8.1.2
   have HR8 := kH hr8
   have HB8 := kH (HB2.out.trans h8.2)
   obtain ⟨⟨c0, c1, c2, c3⟩, f1, f2, f3⟩ := hr8.cells
   clear h8 hr8 HT
   go_wp2_with fail
   refine (AD.out _ ⟨v8, HR8.out⟩).mono ?_
   rintro e w9 ⟨rfl, ⟨v9, hr9⟩, hb9⟩
   have hrow := hr9.row
   have he9 : (l ++ [⟨0, [], s.size⟩] : List Tok).length = l.length + 1 := by simp
   rw [he9] at hrow
   obtain ⟨g, c, rfl⟩ := own_succ hrow
   obtain ⟨⟨d0, d1, d2, d3⟩, g1, g2, g3⟩ := hr9.cells
   have HR9 := kH hrow
   have HB9 := kH (HB8.out.trans hb9)
   clear hr9 hb9 hrow c0 c1 c2 c3 f1 f2 f3
   go_wp2_with fail
   rw [HX2.out]
   refine bodyPost_ret (v := .tuple #[.slice (some ⟨g, 0, none⟩) (l.length + 1) c, .int .i64 0, .int .i64 0]) ?_ rfl ⟨⟨g, c, rfl, own_weak HR9.out (Nat.le_succ _)⟩, HB9.out⟩
   simp [results, Tryz.results15, go_sem]
  | bad o =>
   have hz1 := hsl.2 _ hst
   have hl1 := lexF_bad (n := s.size + 1) (p := p) hst (by omega)
   rw [hst] at T
   rw [hl1] at hx
   have hX : X = .error (p + blankL (s.data.toList.drop p) + o) := by rw [hx]; rfl
   have HT := kH T
   have HX2 := kH hX
   have HB2 := kH hb
   obtain ⟨Q, hQ⟩ : ∃ Q, p + blankL (s.data.toList.drop p) + o = Q := ⟨_, rfl⟩
   rw [hQ] at HX2
   have HQ := kH hQ
   clear hQ
   clear T hx hl1 hst hsl hr hb HX hX
   go_wp2_with fail
   refine HT.out.mono ?_
   rintro e w8 h8
   obtain rfl : e = .returned (.bool false) := h8.1.1
   have hr7 : Rs w.heap.size w8 s (p + blankL (s.data.toList.drop p) + o) true l := h8.1.2
   rw [HQ.out] at hr7
   obtain ⟨v8, hr8⟩ := hr7
   have HB8 := kH (HB2.out.trans h8.2)
   obtain ⟨⟨c0, c1, c2, c3⟩, f1, f2, f3⟩ := hr8.cells
   clear h8 hr8 HT
   go_wp2_with fail
   go_region
   go_wp2_with fail
   rw [HX2.out]
   refine bodyPost_ret (v := .tuple #[.slice none 0 0, .int .i64 (Q : Int), .int .i64 9]) ?_ rfl ⟨rfl, HB8.out.drew⟩
   simp [results, Tryz.results15, go_sem]
end Go.Proofs.YtmbfdkiejneheaaGreatDoor

namespace Go.Proofs.YtmbfdkiejneheaaGreatDoor
open Go.RowKit

theorem TAt.own {w : World} {B g c n : Nat} {l : List Tok} (hn : l.length = n + 1) (h : w.ownsRow B 60 3 (.slice (some ⟨g, 0, none⟩) (n + 1) c) (n + 1) (tokRow l)) : TAt w g l := by
 refine ⟨(own_base h g rfl).2, fun i hi => ?_, fun i hi => ?_, fun i hi => ?_⟩
 ·
  rw [h.cellAt (i * 3) (by omega), show i * 3 = i * 3 + 0 from rfl, tokRow_get _ i 0 hi (by omega)]; rfl
 ·
  rw [h.cellAt (i * 3 + 1) (by omega), tokRow_get _ i 1 hi (by omega)]; rfl
 ·
  rw [h.cellAt (i * 3 + 2) (by omega), tokRow_get _ i 2 hi (by omega)]; rfl
def endT (n : Nat) : Tok := ⟨0, [], n⟩
/-- Lex's answer where there is no error. -/
def OkPost (l : List Tok) (n : Nat) (w : World) (e : Ending) (w' : World) : Prop :=
 ∃ g c, e = .returned (.tuple #[.slice (some ⟨g, 0, none⟩) (l.length + 1) c, .int .i64 0, .int .i64 0]) ∧ TAt w' g (l ++ [endT n]) ∧ Below w.heap.size w w'
theorem lex_ok (s : ByteArray) (l : List Tok) (w : World) (hs : s.size ≤ 4000) (h : lexL s.data.toList = .ok l) : Calls Tryz.prog 15 #[.string s] w (OkPost l s.size w) := by
 refine (lex_any s w hs).mono ?_
 intro e w' hp
 rw [h] at hp
 obtain ⟨⟨g, c, h1, h2⟩, h3⟩ := hp
 exact ⟨g, c, h1, TAt.own (by simp) h2, h3⟩
theorem lex_err (s : ByteArray) (p : Nat) (w : World) (hs : s.size ≤ 4000) (h : lexL s.data.toList = .error p) : Calls Tryz.prog 15 #[.string s] w fun e w' => e = .returned (.tuple #[.slice none 0 0, .int .i64 (p : Int), .int .i64 9]) ∧ Below w.heap.size w w' := by
 refine (lex_any s w hs).mono ?_
 intro e w' hp
 rw [h] at hp
 exact hp
theorem aw1 : lexL [97, 47, 98, 47, 99] = .ok [⟨5, [97], 0⟩, ⟨8, [47], 1⟩, ⟨5, [98], 2⟩, ⟨8, [47], 3⟩, ⟨5, [99], 4⟩] := by rfl
theorem aw2 : lexL [120, 126, 47, 98, 47] = .ok [⟨5, [120], 0⟩, ⟨8, [126], 1⟩, ⟨4, [98], 2⟩] := by rfl
theorem aw3 : lexL [32, 34, 97, 98] = .error 1 := by rfl
end Go.Proofs.YtmbfdkiejneheaaGreatDoor

namespace Go.Proofs.YtmbfdkiejneheaaGreatDoor

/-- A token, a tree without its place. -/
def fk (t : Tok) : Tok := ⟨t.k, t.t, 0⟩
mutual
def fl : PT → PT
 | .mk op tx _ ks => .mk op tx 0 (fls ks)
def fls : List PT → List PT
 | [] => []
 | t :: l => fl t :: fls l
end
theorem fls_map : ∀ l : List PT, fls l = l.map fl
 | [] => by rw [fls]; rfl
 | t :: l => by rw [fls, fls_map l]; rfl
theorem fl_mk (op tx : List UInt8) (pl : Nat) (ks : List PT) : fl (.mk op tx pl ks) = .mk op tx 0 (ks.map fl) := by rw [fl, fls_map]
theorem fl_op (t : PT) : (fl t).op = t.op := by cases t; rw [fl_mk]; rfl
theorem fl_tx (t : PT) : (fl t).tx = t.tx := by cases t; rw [fl_mk]; rfl
theorem fl_kids (t : PT) : (fl t).kids = t.kids.map fl := by cases t; rw [fl_mk]; rfl
theorem fl_nd (op : List UInt8) (ks : List PT) : fl (nd op ks) = nd op (ks.map fl) := fl_mk _ _ _ _
theorem fl_named (op : List UInt8) (t : Tok) (ks : List PT) : fl (named op t ks) = named op (fk t) (ks.map fl) := fl_mk _ _ _ _
theorem fl_pl (t : PT) : isPl (fl t) = isPl t := by unfold isPl; rw [fl_op]
end Go.Proofs.YtmbfdkiejneheaaGreatDoor
