/-
 MATHEMATICS of layer 13: where tokens stand makes no difference but for the places told.
-/
import Derived.Test.YtmbfdkiejneheaaGreatDoorLxR4
import Derived.Test.YtmbfdkiejneheaaGreatDoorPaN
import Derived.Test.YtmbfdkiejneheaaGreatDoorAnM
namespace Go.Proofs.YtmbfdkiejneheaaGreatDoor
open Go.RowKit

theorem strEsc_len (d : UInt8) : (strEsc d).length ≤ 2 := by
 unfold strEsc
 split
 ·
  simp
 ·
  split
  ·
   simp
  ·
   split <;> simp
theorem reEsc_len (d : UInt8) : (reEsc d).length ≤ 2 := by
 unfold reEsc
 split
 ·
  simp
 ·
  split <;> simp
theorem token_any (b : Nat) (s : ByteArray) (p : Nat) (l : List Tok) (w : World) (h : Rs b w s p false l) (hs : s.size ≤ 10000) (hl : l.length ≤ 100000) (hp : p ≤ s.size) :
  Calls Tryz.prog 19 #[.pointer (some ⟨b, 0, none⟩)] w (StPost b s (p + blankL (s.data.toList.drop p)) l w (stepL (rxL l) ((s.data.toList.drop p).drop (blankL (s.data.toList.drop p))))) := by
 obtain ⟨v, h⟩ := h
 have hm := blank_le (s.data.toList.drop p)
 rw [List.length_drop, ba_sz] at hm
 have BL : Hid (∀ W, Calls Tryz.prog 26 #[.string (s.extract p s.size)] W fun e w' => e = .returned (.int .i64 (blankL (s.data.toList.drop p) : Nat)) ∧ w' = W) := kH fun W => by
  have := blank_any (s.extract p s.size) W (by simp; omega)
  rw [extk] at this; exact this
 rw [List.drop_drop]
 generalize blankL (s.data.toList.drop p) = m at *
 obtain ⟨P, hP⟩ : ∃ P, P = p + m := ⟨_, rfl⟩
 rw [← hP]
 have hpP : P ≤ s.size := by omega
 by_cases hz : P < s.size
 ·
  have hR : (s.extract P s.size).data.toList = s.data.toList.drop P := extk s P
  have hRz : (s.extract P s.size).size = s.size - P := by simp
  have hR1 : Hid (s.extract P s.size = s.extract P s.size) := kH rfl
  have hl0 : s.data.toList.drop P = s[P] :: s.data.toList.drop (P + 1) := drop_at s P hz
  rw [hl0, step_cons, ← hl0]
  have hR0 : ∀ h : 0 < (s.extract P s.size).size, (s.extract P s.size)[0] = s[P] := by
   intro h
   have h1 := drop_at (s.extract P s.size) 0 h
   rw [List.drop_zero, hR, hl0] at h1
   exact (List.cons.inj h1).1.symm
  have hz2 : 0 < (s.extract P s.size).size := by omega
  have he : (s.extract P s.size).toList.isEmpty = false := by rw [ByteArray.toList_eq, hR, hl0]; rfl
  have hc0 := hR0 hz2
  have IL : Hid (∀ W, Calls Tryz.prog 31 #[.int .u8 ((s.extract P s.size)[0].toNat : Int)] W fun e w' => e = .returned (.bool (isLt s[P])) ∧ w' = W) := kH fun W => by rw [hc0]; exact islt_any _ W
  have NS : Hid (∀ W, Rs b W s P false l → Calls Tryz.prog 34 #[.pointer (some ⟨b, 0, none⟩), .string (s.extract P s.size)] W (StPost b s P l W (nosL (s.data.toList.drop P)))) := kH fun W h => by
   have := nos_any b s P l (s.extract P s.size) W h (by omega) hl (by omega)
   rw [hR] at this; exact this
  have BG := kH (fun W (h : Rs b W s P false l) => begins_any b s P false l W h hl)
  by_cases c1 : s[P] = 10
  ·
   rw [if_pos c1]
   exact token_nl b s p m P l v _ _ w h hs hl hP hpP BL hR1 he hz2 (by rw [hc0, c1]; rfl) rfl
  rw [if_neg c1]
  by_cases c2 : s[P] = 34
  ·
   rw [if_pos c2]
   refine token_str b s p m P l v _ _ w h hs hl hP hpP BL hR1 he hz2 (by rw [hc0, c2]; rfl) (kH fun W h => ?_)
   exact quoted_str b s P l 3 strEsc 34 W h hs hl hz c2 strEsc_len sesc_any
  rw [if_neg c2]
  have n1 : ¬ ((s.extract P s.size)[0].toNat : Int) = 10 := fun e => c1 (hc0 ▸ nat_of (by decide) e)
  have n2 : ¬ ((s.extract P s.size)[0].toNat : Int) = 34 := fun e => c2 (hc0 ▸ nat_of (by decide) e)
  by_cases c3 : s[P] = 47
  ·
   cases hrx : rxL l with
   | true =>
    rw [hrx] at BG
    rw [if_pos ⟨c3, rfl⟩]
    refine token_re b s p m P l v _ _ w h hs hl hP hpP BL hR1 he hz2 (by rw [hc0, c3]; rfl) BG (kH fun W h => ?_)
    exact quoted_re b s P l 4 reEsc 47 W h hs hl hz c3 reEsc_len resc_any
   | false =>
    rw [hrx] at BG
    rw [if_neg (fun h => by cases h.2), if_neg (by rw [c3]; decide)]
    exact token_div b s p m P l v _ _ w h hs hl hP hpP BL hR1 he hz2 (by rw [hc0, c3]; rfl) BG (kH fun W => by have := islt_any 47 W; exact this) NS
  rw [if_neg (fun h => c3 h.1)]
  have n3 : ¬ ((s.extract P s.size)[0].toNat : Int) = 47 := fun e => c3 (hc0 ▸ nat_of (by decide) e)
  cases hlt : isLt s[P] with
  | false =>
   rw [hlt] at IL
   rw [if_neg (by simp)]
   exact token_other b s p m P l v _ _ w h hs hl hP hpP BL hR1 he hz2 n1 n2 n3 IL NS
  | true =>
   rw [hlt] at IL
   rw [if_pos rfl]
   have hn := nm_le (s.data.toList.drop P)
   rw [List.length_drop, ba_sz] at hn
   have h0 := ext0 (s.extract P s.size) (nmL (s.data.toList.drop P))
   have h1 := extk (s.extract P s.size) (nmL (s.data.toList.drop P))
   rw [hR] at h0 h1
   refine token_name b s p m P l v _ _ w h hs hl hP hpP BL hR1 (nmL (s.data.toList.drop P)) (kindL ((s.data.toList.drop P).take (nmL (s.data.toList.drop P))) ((s.data.toList.drop P).drop (nmL (s.data.toList.drop P)))) ((s.data.toList.drop P).take (nmL (s.data.toList.drop P))) he hz2 n1 n2 n3 (by omega) (by omega) IL (kH fun W => ?_) (kH fun W => ?_) (kH fun W h => ?_) rfl
   ·
    have := nms_any (s.extract P s.size) W (by omega)
    rw [hR] at this; exact this
   ·
    have := kind_any ((s.extract P s.size).extract 0 (nmL (s.data.toList.drop P))) ((s.extract P s.size).extract (nmL (s.data.toList.drop P)) (s.extract P s.size).size) W
    rw [h0, h1] at this; exact this
   ·
    have := add_any b s P false l (kindL ((s.data.toList.drop P).take (nmL (s.data.toList.drop P))) ((s.data.toList.drop P).drop (nmL (s.data.toList.drop P)))) ((s.extract P s.size).extract 0 (nmL (s.data.toList.drop P))) (nmL (s.data.toList.drop P)) W h (by simp; omega) hl (by omega) (by omega)
    rw [h0] at this; exact this
 ·
  have hd := drop_end s P (by omega)
  rw [hd]
  refine token_eof b s p m P l v ⟨#[]⟩ _ w h hs hl hP hpP BL (kH ?_) (kH rfl) rfl
  exact WideShapes.bytes_inj (by rw [extk, hd])
end Go.Proofs.YtmbfdkiejneheaaGreatDoor

namespace Go.Proofs.YtmbfdkiejneheaaGreatDoor
open Go.RowKit

/-- The answer. -/
def LxPost (x : Except Nat (List Tok)) (n : Nat) (w : World) (e : Ending) (w' : World) : Prop :=
 (match x with
  | .ok l => ∃ g c, e = .returned (.tuple #[.slice (some ⟨g, 0, none⟩) (l.length + 1) c, .int .i64 0, .int .i64 0]) ∧ w'.ownsRow w.heap.size 60 3 (.slice (some ⟨g, 0, none⟩) (l.length + 1) c) (l.length + 1) (tokRow (l ++ [⟨0, [], n⟩]))
  | .error p => e = .returned (.tuple #[.slice none 0 0, .int .i64 (p : Int), .int .i64 9])) ∧ Below w.heap.size w w'
def posW (b : Nat) (w : World) : Nat := match w.cell? ⟨b, 1, none⟩ with
 | some (.int _ x) => x.toNat
 | _ => 0
theorem Rs.pos {b : Nat} {w : World} {s : ByteArray} {p : Nat} {bad : Bool} {l : List Tok} (h : Rs b w s p bad l) : posW b w = p := by
 obtain ⟨v, h⟩ := h
 unfold posW
 rw [h.cells.1.2.1]
 simp
theorem own_weak {w : World} {B C : Nat} {e : TypeId} {z : Nat} {v : Value} {n : Nat} {xs : List Value} (h : w.ownsRow B e z v n xs) (hC : C ≤ B) : w.ownsRow C e z v n xs := by
 refine ⟨h.1, ?_⟩
 rcases h.2 with h2 | ⟨g, cap, cur, hv, hg, r⟩
 ·
  exact .inl h2
 ·
  exact .inr ⟨g, cap, cur, hv, Nat.le_trans hC hg, r⟩
theorem step_eof {rx : Bool} {l : List UInt8} (h : stepL rx l = .eof) : l = [] := by
 cases l with
 | nil => rfl
 | cons c t =>
  exfalso
  rw [step_cons] at h
  have hq : ∀ k q, St.ofQ k q ≠ .eof := fun k q => by cases q <;> intro e <;> cases e
  split at h
  ·
   cases h
  split at h
  ·
   exact hq _ _ h
  split at h
  ·
   exact hq _ _ h
  split at h
  ·
   cases h
  split at h
  ·
   cases h
  split at h <;> cases h
set_option maxHeartbeats 2000000 in
set_option maxRecDepth 100000 in
theorem lex_any (s : ByteArray) (w : World) (hs : s.size ≤ 4000) :
  Calls Tryz.prog 15 #[.string s] w (LxPost (lexL s.data.toList) s.size w) := by
 have hs' : (s.size : Int) ≤ 4000 := by omega
 have H0 : Hid (lexL s.data.toList = (lexF (s.size + 1) (rxL []) 0 (s.data.toList.drop 0)).map (([] : List Tok) ++ ·)) := kH (by
  unfold lexL
  rw [ba_sz, List.drop_zero, show rxL [] = true from rfl]
  cases lexF (s.size + 1) true 0 s.data.toList <;> rfl)
 generalize lexL s.data.toList = X at *
 have HI : Hid (Rs w.heap.size (w.alloc (.cells #[.string s, .int .i64 0, .bool false, .slice none 0 0] 47)) s 0 false []) := kH ⟨_, by
  exact ⟨heap_alloc_new w _, World.ownsRow_nil _ _ _ _⟩⟩
 have HB : Hid (Below w.heap.size w (w.alloc (.cells #[.string s, .int .i64 0, .bool false, .slice none 0 0] 47))) := kH ((Below.refl _ _).alloc (Nat.le_refl _) _)
 go_enter Tryz.func15, Tryz.ntmps15
 go_wp2_with fail
 go_loopw [] (fun wr => ∃ (p : Nat) (l : List Tok), p ≤ s.size ∧ l.length ≤ p ∧ Hid (Rs w.heap.size wr s p false l ∧ Below w.heap.size w wr ∧ X = (lexF (s.size + 1) (rxL l) p (s.data.toList.drop p)).map (l ++ ·))) (fun wr => s.size - posW w.heap.size wr)
 case atStart => exact ⟨0, [], Nat.zero_le _, Nat.le_refl _, kH ⟨HI.out, HB.out, H0.out⟩⟩
 case round =>
  obtain ⟨p, l, hp, hl, HX⟩ := hrel
  obtain ⟨hr, hb, hx⟩ := HX.out
  have T := token_any w.heap.size s p l wr hr (by omega) (by omega) hp
  have hlt : w.heap.size < wr.heap.size := by obtain ⟨v, hv⟩ := hr; exact hv.lt
  have hpos := hr.pos
  have hm := blank_le (s.data.toList.drop p)
  have hdl : (s.data.toList.drop p).length = s.size - p := by rw [List.length_drop, ba_sz]
  have hdm : ((s.data.toList.drop p).drop (blankL (s.data.toList.drop p))).length = s.size - p - blankL (s.data.toList.drop p) := by rw [List.length_drop, hdl]
  rw [hdl] at hm
  have hsl := step_le (rxL l) ((s.data.toList.drop p).drop (blankL (s.data.toList.drop p)))
  rw [hdm] at hsl
  cases hst : stepL (rxL l) ((s.data.toList.drop p).drop (blankL (s.data.toList.drop p))) with
  | tok k t z =>
   obtain ⟨hz0, hz1⟩ := hsl.1 _ _ _ hst
   have hl1 := lexF_tok (n := s.size + 1) (p := p) hst (by omega)
   rw [hst] at T
   rw [hl1, List.drop_drop] at hx
   have HN : Hid (∀ w8, StPost w.heap.size s (p + blankL (s.data.toList.drop p)) l wr (.tok k t z) (.returned (.bool true)) w8 → Rs w.heap.size w8 s (p + blankL (s.data.toList.drop p) + z) false (l ++ [⟨k, t, p + blankL (s.data.toList.drop p)⟩]) ∧ Below w.heap.size w w8 ∧ X = (lexF (s.size + 1) (rxL (l ++ [⟨k, t, p + blankL (s.data.toList.drop p)⟩])) (p + blankL (s.data.toList.drop p) + z) (s.data.toList.drop (p + blankL (s.data.toList.drop p) + z))).map ((l ++ [⟨k, t, p + blankL (s.data.toList.drop p)⟩]) ++ ·)) := kH fun w8 h => by
    refine ⟨h.1.2, hb.trans h.2, ?_⟩
    rw [hx, rxL_snoc, Nat.add_assoc]
    cases lexF (s.size + 1) (rxA k t) (p + (blankL (s.data.toList.drop p) + z)) (s.data.toList.drop (p + (blankL (s.data.toList.drop p) + z))) with
    | error e => rfl
    | ok r => simp [Except.map]
   have HT := kH T
   generalize blankL (s.data.toList.drop p) = m at *
   clear T hx hl1 hst hsl hr hb HX
   go_wp2_with fail
   refine HT.out.mono ?_
   rintro e w8 h8
   obtain rfl : e = .returned (.bool true) := h8.1.1
   have hN := HN.out w8 h8
   have HN8 := kH hN
   have hp8 := hN.1.pos
   clear h8 hN HT HN
   go_wp2_with fail
   go_roundw
   case rel => exact ⟨p + m + z, l ++ [⟨k, t, p + m⟩], by omega, by rw [List.length_append]; simp; omega, HN8⟩
   case measure => rw [hp8, hpos]; omega
  | eof =>
   have he := step_eof hst
   rw [he] at hdm
   simp only [List.length_nil] at hdm
   have hl1 := lexF_eof (n := s.size + 1) (p := p) hst
   rw [hst] at T
   rw [hl1] at hx
   have hX : X = .ok l := by rw [hx]; simp [Except.map]
   have hP : p + blankL (s.data.toList.drop p) = s.size := by omega
   rw [hP] at T
   have HT := kH T
   have HX2 := kH hX
   have HB2 := kH hb
   have AD : Hid (∀ W, Rs w.heap.size W s s.size false l → Calls Tryz.prog 20 #[.pointer (some ⟨w.heap.size, 0, none⟩), .int .i64 0, .string ⟨#[]⟩, .int .i64 0] W (AdPost w.heap.size s (s.size + 0) false (l ++ [⟨0, [], s.size⟩]) W)) := kH fun W h => add_any w.heap.size s s.size false l 0 ⟨#[]⟩ 0 W h (by decide) (by omega) (by omega) (by omega)
   clear T hx hl1 hst hsl hr hb HX hX hP he hdm hm hdl
   go_wp2_with fail
   refine HT.out.mono ?_
   rintro e w8 h8
   obtain rfl : e = .returned (.bool false) := h8.1.1
   obtain ⟨v8, hr8⟩ := h8.1.2
   have HR8 := kH hr8
   have HB8 := kH (HB2.out.trans h8.2)
   obtain ⟨⟨c0, c1, c2, c3⟩, f1, f2, f3⟩ := hr8.cells
   clear h8 hr8 HT
   go_wp2_with fail
   refine (AD.out _ ⟨v8, HR8.out⟩).mono ?_
   rintro e w9 ⟨rfl, ⟨v9, hr9⟩, hb9⟩
   have hrow := hr9.row
   have he9 : (l ++ [⟨0, [], s.size⟩] : List Tok).length = l.length + 1 := by simp
   rw [he9] at hrow
   obtain ⟨g, c, rfl⟩ := own_succ hrow
   obtain ⟨⟨d0, d1, d2, d3⟩, g1, g2, g3⟩ := hr9.cells
   have HR9 := kH hrow
   have HB9 := kH (HB8.out.trans hb9)
   clear hr9 hb9 hrow c0 c1 c2 c3 f1 f2 f3
   go_wp2_with fail
   rw [HX2.out]
   refine bodyPost_ret (v := .tuple #[.slice (some ⟨g, 0, none⟩) (l.length + 1) c, .int .i64 0, .int .i64 0]) ?_ rfl ⟨⟨g, c, rfl, own_weak HR9.out (Nat.le_succ _)⟩, HB9.out⟩
   simp [results, Tryz.results15, go_sem]
  | bad o =>
   have hz1 := hsl.2 _ hst
   have hl1 := lexF_bad (n := s.size + 1) (p := p) hst (by omega)
   rw [hst] at T
   rw [hl1] at hx
   have hX : X = .error (p + blankL (s.data.toList.drop p) + o) := by rw [hx]; rfl
   have HT := kH T
   have HX2 := kH hX
   have HB2 := kH hb
   obtain ⟨Q, hQ⟩ : ∃ Q, p + blankL (s.data.toList.drop p) + o = Q := ⟨_, rfl⟩
   rw [hQ] at HX2
   have HQ := kH hQ
   clear hQ
   clear T hx hl1 hst hsl hr hb HX hX
   go_wp2_with fail
   refine HT.out.mono ?_
   rintro e w8 h8
   obtain rfl : e = .returned (.bool false) := h8.1.1
   have hr7 : Rs w.heap.size w8 s (p + blankL (s.data.toList.drop p) + o) true l := h8.1.2
   rw [HQ.out] at hr7
   obtain ⟨v8, hr8⟩ := hr7
   have HB8 := kH (HB2.out.trans h8.2)
   obtain ⟨⟨c0, c1, c2, c3⟩, f1, f2, f3⟩ := hr8.cells
   clear h8 hr8 HT
   go_wp2_with fail
   go_region
   go_wp2_with fail
   rw [HX2.out]
   refine bodyPost_ret (v := .tuple #[.slice none 0 0, .int .i64 (Q : Int), .int .i64 9]) ?_ rfl ⟨rfl, HB8.out.drew⟩
   simp [results, Tryz.results15, go_sem]
end Go.Proofs.YtmbfdkiejneheaaGreatDoor

namespace Go.Proofs.YtmbfdkiejneheaaGreatDoor
open Go.RowKit

theorem TAt.own {w : World} {B g c n : Nat} {l : List Tok} (hn : l.length = n + 1) (h : w.ownsRow B 60 3 (.slice (some ⟨g, 0, none⟩) (n + 1) c) (n + 1) (tokRow l)) : TAt w g l := by
 refine ⟨(own_base h g rfl).2, fun i hi => ?_, fun i hi => ?_, fun i hi => ?_⟩
 ·
  rw [h.cellAt (i * 3) (by omega), show i * 3 = i * 3 + 0 from rfl, tokRow_get _ i 0 hi (by omega)]; rfl
 ·
  rw [h.cellAt (i * 3 + 1) (by omega), tokRow_get _ i 1 hi (by omega)]; rfl
 ·
  rw [h.cellAt (i * 3 + 2) (by omega), tokRow_get _ i 2 hi (by omega)]; rfl
def endT (n : Nat) : Tok := ⟨0, [], n⟩
/-- Lex's answer where there is no error. -/
def OkPost (l : List Tok) (n : Nat) (w : World) (e : Ending) (w' : World) : Prop :=
 ∃ g c, e = .returned (.tuple #[.slice (some ⟨g, 0, none⟩) (l.length + 1) c, .int .i64 0, .int .i64 0]) ∧ TAt w' g (l ++ [endT n]) ∧ Below w.heap.size w w'
theorem lex_ok (s : ByteArray) (l : List Tok) (w : World) (hs : s.size ≤ 4000) (h : lexL s.data.toList = .ok l) : Calls Tryz.prog 15 #[.string s] w (OkPost l s.size w) := by
 refine (lex_any s w hs).mono ?_
 intro e w' hp
 rw [h] at hp
 obtain ⟨⟨g, c, h1, h2⟩, h3⟩ := hp
 exact ⟨g, c, h1, TAt.own (by simp) h2, h3⟩
theorem lex_err (s : ByteArray) (p : Nat) (w : World) (hs : s.size ≤ 4000) (h : lexL s.data.toList = .error p) : Calls Tryz.prog 15 #[.string s] w fun e w' => e = .returned (.tuple #[.slice none 0 0, .int .i64 (p : Int), .int .i64 9]) ∧ Below w.heap.size w w' := by
 refine (lex_any s w hs).mono ?_
 intro e w' hp
 rw [h] at hp
 exact hp
theorem aw1 : lexL [97, 47, 98, 47, 99] = .ok [⟨5, [97], 0⟩, ⟨8, [47], 1⟩, ⟨5, [98], 2⟩, ⟨8, [47], 3⟩, ⟨5, [99], 4⟩] := by rfl
theorem aw2 : lexL [120, 126, 47, 98, 47] = .ok [⟨5, [120], 0⟩, ⟨8, [126], 1⟩, ⟨4, [98], 2⟩] := by rfl
theorem aw3 : lexL [32, 34, 97, 98] = .error 1 := by rfl
end Go.Proofs.YtmbfdkiejneheaaGreatDoor

namespace Go.Proofs.YtmbfdkiejneheaaGreatDoor

/-- A token, a tree without its place. -/
def fk (t : Tok) : Tok := ⟨t.k, t.t, 0⟩
mutual
def fl : PT → PT
 | .mk op tx _ ks => .mk op tx 0 (fls ks)
def fls : List PT → List PT
 | [] => []
 | t :: l => fl t :: fls l
end
theorem fls_map : ∀ l : List PT, fls l = l.map fl
 | [] => by rw [fls]; rfl
 | t :: l => by rw [fls, fls_map l]; rfl
theorem fl_mk (op tx : List UInt8) (pl : Nat) (ks : List PT) : fl (.mk op tx pl ks) = .mk op tx 0 (ks.map fl) := by rw [fl, fls_map]
theorem fl_op (t : PT) : (fl t).op = t.op := by cases t; rw [fl_mk]; rfl
theorem fl_tx (t : PT) : (fl t).tx = t.tx := by cases t; rw [fl_mk]; rfl
theorem fl_kids (t : PT) : (fl t).kids = t.kids.map fl := by cases t; rw [fl_mk]; rfl
theorem fl_nd (op : List UInt8) (ks : List PT) : fl (nd op ks) = nd op (ks.map fl) := fl_mk _ _ _ _
theorem fl_named (op : List UInt8) (t : Tok) (ks : List PT) : fl (named op t ks) = named op (fk t) (ks.map fl) := fl_mk _ _ _ _
theorem fl_pl (t : PT) : isPl (fl t) = isPl t := by unfold isPl; rw [fl_op]
/-- What was read, without places. -/
def mp {α : Type} (f : α → α) : TR α → TR α
 | .error e => .error (0, e.2)
 | .ok (a, l) => .ok (f a, l.map fk)
theorem mp_ok {α : Type} (f : α → α) (a : α) (l : List Tok) : mp f (.ok (a, l)) = .ok (f a, l.map fk) := rfl
theorem mp_err {α : Type} (f : α → α) (e : Nat × Nat) : mp f (.error e : TR α) = .error (0, e.2) := rfl
theorem mp_bnd {α β : Type} {f : α → α} {g : β → β} {x y : TR α} {p q : α → List Tok → TR β} (hx : y = mp f x) (h : ∀ a l, q (f a) (l.map fk) = mp g (p a l)) : bnd y q = mp g (bnd x p) := by
 subst hx
 match x with
 | .error e => rfl
 | .ok (a, l) => exact h a l
section
variable (l : List Tok)
theorem tk_m : tk (l.map fk) = fk (tk l) := by cases l <;> rfl
theorem k_m : (tk (l.map fk)).k = (tk l).k := by rw [tk_m]; rfl
theorem t_m : (tk (l.map fk)).t = (tk l).t := by rw [tk_m]; rfl
theorem a_m : (tk (l.map fk)).a = 0 := by rw [tk_m]; rfl
theorem fx_m : fx (l.map fk) = fx l := by unfold fx; rw [k_m, t_m]
theorem nx_m : nx (l.map fk) = (nx l).map fk := by
 unfold nx
 rw [k_m]
 split
 ·
  rfl
 ·
  cases l <;> rfl
theorem drop_m (p : Tok → Bool) (hp : ∀ t, p (fk t) = p t) : ∀ l : List Tok, (l.map fk).dropWhile p = (l.dropWhile p).map fk
 | [] => rfl
 | t :: l => by
  rw [List.map_cons, List.dropWhile_cons, List.dropWhile_cons, hp]
  split
  ·
   exact drop_m p hp l
  ·
   rfl
theorem nls_m : nlsP (l.map fk) = (nlsP l).map fk := drop_m _ (fun _ => rfl) l
theorem seps_m : sepsP (l.map fk) = (sepsP l).map fk := drop_m _ (fun _ => rfl) l
theorem ref_m : refE (l.map fk) = (0, (refE l).2) := by unfold refE; rw [a_m, k_m, fx_m]
theorem deep_m : deepE (l.map fk) = (0, (deepE l).2) := by unfold deepE; rw [a_m]
theorem want_m (s : List UInt8) : wantP s (l.map fk) = mp id (wantP s l) := by
 unfold wantP
 rw [fx_m, nx_m, ref_m]
 split <;> rfl
end
/-- Where tokens stand makes no difference. -/
def Hm {α : Type} (g : α → α) (f : List Tok → TR α) : Prop := ∀ l, f (l.map fk) = mp g (f l)
theorem row_m {f : List Tok → TR PT} (hf : Hm fl f) : ∀ (n : Nat) (l : List Tok) (ts : List PT), rowP f n (l.map fk) (ts.map fl) = mp (List.map fl) (rowP f n l ts)
 | 0, _, _ => rfl
 | n + 1, l, ts => by
  unfold rowP
  rw [fx_m]
  split
  ·
   rw [nx_m, nls_m]
   refine mp_bnd (hf _) fun t l2 => ?_
   have := row_m hf n l2 (ts ++ [t])
   rwa [List.map_append] at this
  ·
   rfl
theorem row1_m {f : List Tok → TR PT} (hf : Hm fl f) : Hm (List.map fl) (row1 f) := fun l => by
 unfold row1
 refine mp_bnd (hf l) fun t l2 => ?_
 rw [List.length_map]
 exact row_m hf (l2.length + 1) l2 [t]
theorem within_m {α : Type} {g : α → α} {f : List Tok → TR α} (hf : Hm g f) (o c : List UInt8) : Hm g (withinP o f c) := fun l => by
 unfold withinP
 refine mp_bnd (want_m l o) fun _ l1 => ?_
 rw [nls_m]
 refine mp_bnd (hf _) fun a l2 => ?_
 rw [nls_m]
 exact mp_bnd (want_m _ c) fun _ l3 => rfl
theorem args_m {f : List Tok → TR PT} (hf : Hm fl f) : Hm (List.map fl) (argsP f) := fun l => by
 unfold argsP
 rw [fx_m]
 split
 ·
  rfl
 ·
  exact row1_m hf l
theorem list_m {f : List Tok → TR PT} (hf : Hm fl f) : Hm (List.map fl) (listP f) := within_m (args_m hf) _ _
structure RcM (R : Rc) : Prop where
 E : ∀ pr, Hm fl (R.E pr)
 U : Hm fl R.U
 F : Hm fl R.F
theorem taken_m (name : Tok) (l : List PT) : takenP (fk name) (l.map fl) = (takenP name l).map (List.map fl) := by
 unfold takenP
 rw [show (fk name).t = name.t from rfl, show (fk name).a = 0 from rfl, List.length_map]
 split
 ·
  split <;> rfl
 ·
  split
  ·
   split <;> rfl
  ·
   split
   ·
    split <;> rfl
   ·
    split
    ·
     split <;> rfl
    ·
     split
     ·
      by_cases h2 : l.length = 2
      ·
       rw [if_pos h2, if_pos h2]
       match l, h2 with
       | [a, b], _ =>
        simp only [List.map_cons, List.map_nil, List.cons_append, List.nil_append]
        rw [show isPl (nd oField [.mk oNum [48] 0 []]) = true from rfl, show isPl (nd oField [.mk oNum [48] name.a []]) = true from rfl]
        simp [fl_nd, fl_mk]
      ·
       rw [if_neg h2, if_neg h2]
       match l with
       | [] => rfl
       | [_] => rfl
       | [_, _] => simp at h2
       | [a, b, c] =>
        simp only [List.map_cons, List.map_nil]
        rw [fl_pl]
        split <;> rfl
       | _ :: _ :: _ :: _ :: _ => rfl
     ·
      split
      ·
       match l with
       | [] => rfl
       | [_] => rfl
       | a :: b :: r =>
        simp only [List.map_cons]
        rw [fl_op, List.length_map]
        split
        ·
         cases b; simp [fl_mk, PT.tx, PT.pl, PT.kids]
        ·
         rfl
      ·
       split
       ·
        split <;> rfl
       ·
        split <;> rfl
section
variable (reOk : List UInt8 → Bool) {R : Rc} (h : RcM R)
include h
theorem elem_m (op : List UInt8) : Hm fl (elemP R op) := fun l => by
 unfold elemP
 rw [k_m, nx_m, fx_m, ref_m, tk_m]
 split
 ·
  split
  ·
   exact mp_bnd (within_m (h.E false) _ _ _) fun t l2 => by rw [mp_ok, fl_named]; rfl
  ·
   rw [mp_ok, fl_named]; rfl
 ·
  rfl
theorem builtin_m : Hm fl (builtinP R) := fun l => by
 unfold builtinP
 rw [t_m, nx_m, fx_m, tk_m]
 split
 ·
  rw [mp_ok, fl_named]; rfl
 ·
  refine mp_bnd (list_m (h.E false) _) fun ts l2 => ?_
  rw [taken_m, List.length_map]
  cases takenP (tk l) ts with
  | none => rfl
  | some us => simp only [Option.map_some]; rw [mp_ok, fl_named]
theorem prim_m : Hm fl (primP reOk R) := fun l => by
 unfold primP
 rw [k_m, t_m, nx_m, fx_m, ref_m, tk_m]
 split
 ·
  rw [mp_ok, fl_named]; rfl
 ·
  split
  ·
   rw [mp_ok, fl_named]; rfl
  ·
   split
   ·
    split
    ·
     rw [mp_ok, fl_named]; rfl
    ·
     rfl
   ·
    split
    ·
     exact elem_m h _ l
    ·
     split
     ·
      exact mp_bnd (list_m (h.E false) _) fun t l2 => by rw [mp_ok, fl_named]
     ·
      split
      ·
       exact builtin_m h l
      ·
       split
       ·
        exact within_m (h.E false) _ _ l
       ·
        split
        ·
         exact h.F _
        ·
         rfl
omit h in
theorem stepB_m (l : List Tok) : stepB (l.map fk) = stepB l := by unfold stepB; rw [fx_m]
theorem pre_m : Hm fl (preP reOk R) := fun l => by
 unfold preP
 rw [nx_m, t_m]
 refine mp_bnd (prim_m reOk h _) fun t l2 => ?_
 rw [fl_pl, ref_m]
 split
 ·
  rw [mp_ok, fl_nd]; rfl
 ·
  rfl
theorem post_m : Hm fl (postP reOk R) := fun l => by
 unfold postP
 rw [stepB_m]
 split
 ·
  exact pre_m reOk h l
 ·
  refine mp_bnd (prim_m reOk h l) fun t l2 => ?_
  rw [fl_pl, fx_m, nx_m]
  split
  ·
   split
   ·
    rw [mp_ok, fl_nd]; rfl
   ·
    split
    ·
     rw [mp_ok, fl_nd]; rfl
    ·
     rfl
  ·
   rfl
theorem field_m : Hm fl (fieldP reOk R) := fun l => by
 unfold fieldP
 rw [stepB_m]
 split
 ·
  exact mp_bnd (pre_m reOk h l) fun t l2 => by rw [mp_ok, fl_nd]; rfl
 ·
  exact mp_bnd (prim_m reOk h l) fun t l2 => by rw [mp_ok, fl_nd]; rfl
theorem unary_m : Hm fl (unaryP reOk R) := fun l => by
 have hu : ∀ op : List UInt8, bnd (R.U ((nx l).map fk)) (fun t l2 => .ok (nd op [t], l2)) = mp fl (bnd (R.U (nx l)) fun t l2 => .ok (nd op [t], l2)) := fun op => mp_bnd (h.U _) fun t l2 => by rw [mp_ok, fl_nd]; rfl
 unfold unaryP
 rw [fx_m, nx_m]
 split
 ·
  exact hu _
 ·
  split
  ·
   exact hu _
  ·
   split
   ·
    exact hu _
   ·
    exact post_m reOk h l
omit h in
theorem chainL_m {part : List Tok → TR PT} (hp : Hm fl part) (signs : List (List UInt8)) : ∀ (n : Nat) (l : List Tok) (t : PT), chainL part signs n (l.map fk) (fl t) = mp fl (chainL part signs n l t)
 | 0, _, _ => rfl
 | n + 1, l, t => by
  unfold chainL
  rw [fx_m, t_m, nx_m, nls_m]
  split
  ·
   rw [show (if binO (tk l).t = [111, 114] ∨ binO (tk l).t = [97, 110, 100] then (nlsP (nx l)).map fk else (nx l).map fk) = (if binO (tk l).t = [111, 114] ∨ binO (tk l).t = [97, 110, 100] then nlsP (nx l) else nx l).map fk from by split <;> rfl]
   refine mp_bnd (hp _) fun u l2 => ?_
   have := chainL_m hp signs n l2 (nd (binO (tk l).t) [t, u])
   rwa [fl_nd] at this
  ·
   rfl
omit h in
theorem chain_m {part : List Tok → TR PT} (hp : Hm fl part) (signs : List (List UInt8)) : Hm fl (chainP part signs) := fun l => by
 unfold chainP
 refine mp_bnd (hp l) fun t l2 => ?_
 rw [List.length_map]
 exact chainL_m hp signs _ l2 t
theorem product_m : Hm fl (productP reOk R) := chain_m (unary_m reOk h) _
theorem sum_m : Hm fl (sumP reOk R) := chain_m (product_m reOk h) _
omit h in
theorem valueB_m (l : List Tok) : valueB (l.map fk) = valueB l := by unfold valueB; rw [fx_m, k_m]
theorem sideL_m : ∀ (n : Nat) (l : List Tok) (t : PT), sideL reOk R n (l.map fk) (fl t) = mp fl (sideL reOk R n l t)
 | 0, _, _ => rfl
 | n + 1, l, t => by
  unfold sideL
  rw [valueB_m]
  split
  ·
   refine mp_bnd (sum_m reOk h l) fun u l2 => ?_
   have := sideL_m n l2 (nd [99, 97, 116] [t, u])
   rwa [fl_nd] at this
  ·
   rfl
theorem side_m : Hm fl (sideP reOk R) := fun l => by
 unfold sideP
 refine mp_bnd (sum_m reOk h l) fun t l2 => ?_
 rw [List.length_map]
 exact sideL_m reOk h _ l2 t
theorem rel_m (pr : Bool) : Hm fl (relP reOk R pr) := fun l => by
 unfold relP
 refine mp_bnd (side_m reOk h l) fun t l2 => ?_
 rw [fx_m, nx_m]
 split
 ·
  exact mp_bnd (side_m reOk h _) fun u l3 => by rw [mp_ok, fl_nd]; rfl
 ·
  rfl
theorem match_m (pr : Bool) : Hm fl (matchP reOk R pr) := chain_m (rel_m reOk h pr) _
omit h in
theorem inL_m : ∀ (n : Nat) (l : List Tok) (t : PT), inL n (l.map fk) (fl t) = mp fl (inL n l t)
 | 0, _, _ => rfl
 | n + 1, l, t => by
  unfold inL
  rw [fx_m, nx_m, nx_m, k_m, ref_m, tk_m]
  split
  ·
   split
   ·
    have := inL_m n (nx (nx l)) (named [105, 110] (tk (nx l)) [t])
    rwa [fl_named] at this
   ·
    rfl
  ·
   rfl
theorem in_m (pr : Bool) : Hm fl (inP reOk R pr) := fun l => by
 unfold inP
 refine mp_bnd (match_m reOk h pr l) fun t l2 => ?_
 rw [List.length_map]
 exact inL_m _ l2 t
theorem and_m (pr : Bool) : Hm fl (andP reOk R pr) := chain_m (in_m reOk h pr) _
theorem or_m (pr : Bool) : Hm fl (orP reOk R pr) := chain_m (and_m reOk h pr) _
theorem expr_m (pr : Bool) : Hm fl (exprP reOk R pr) := fun l => by
 unfold exprP
 refine mp_bnd (or_m reOk h pr l) fun t l1 => ?_
 rw [fx_m, nx_m, nls_m, fl_pl, t_m]
 split
 ·
  refine mp_bnd (h.E pr _) fun u l2 => ?_
  rw [nls_m]
  refine mp_bnd (want_m _ _) fun _ l3 => ?_
  rw [nls_m]
  exact mp_bnd (h.E pr _) fun v l4 => by rw [mp_ok, fl_nd]; rfl
 ·
  split
  ·
   exact mp_bnd (h.E pr _) fun v l2 => by rw [mp_ok, fl_mk]; rfl
  ·
   rfl
end
theorem rc_m (reOk : List UInt8 → Bool) : ∀ n, RcM (rcP reOk n)
 | 0 => ⟨fun _ l => by show Except.error (deepE _) = _; rw [deep_m]; rfl, fun l => by show Except.error (deepE _) = _; rw [deep_m]; rfl, fun l => by show Except.error (deepE _) = _; rw [deep_m]; rfl⟩
 | n + 1 => ⟨expr_m reOk (rc_m reOk n), unary_m reOk (rc_m reOk n), field_m reOk (rc_m reOk n)⟩
section
variable (reOk : List UInt8 → Bool) {R : Rc} (h : RcM R)
theorem endB_m (l : List Tok) : endB (l.map fk) = endB l := by unfold endB; rw [k_m, fx_m]
theorem targB_m (l : List Tok) : targB (l.map fk) = targB l := by unfold targB; rw [fx_m]
theorem bracket_m : ∀ (n : Nat) (l : List Tok) (k : Int), bracketP n (l.map fk) k = bracketP n l k
 | 0, _, _ => rfl
 | n + 1, l, k => by
  unfold bracketP
  simp only [k_m, fx_m, nx_m, targB_m, bracket_m n]
include h
theorem printed_m : Hm (List.map fl) (printedP R) := fun l => by
 unfold printedP
 rw [fx_m, List.length_map, bracket_m, endB_m, targB_m]
 split
 ·
  exact list_m (h.E false) l
 ·
  split
  ·
   rfl
  ·
   exact row1_m (h.E true) l
theorem target_m : Hm fl (targetP R reOk) := fun l => by
 have hu : ∀ op : List UInt8, bnd (sideP reOk R ((nx l).map fk)) (fun t l2 => .ok (nd op [t], l2)) = mp fl (bnd (sideP reOk R (nx l)) fun t l2 => .ok (nd op [t], l2)) := fun op => mp_bnd (side_m reOk h _) fun t l2 => by rw [mp_ok, fl_nd]; rfl
 unfold targetP
 rw [fx_m, nx_m]
 split
 ·
  exact hu _
 ·
  split
  ·
   exact hu _
  ·
   rw [mp_ok, fl_nd]; rfl
theorem print_m (op : List UInt8) : Hm fl (printP R reOk op) := fun l => by
 unfold printP
 refine mp_bnd (printed_m h l) fun ts l2 => ?_
 refine mp_bnd (target_m reOk h l2) fun g l3 => ?_
 rw [ref_m]
 by_cases hc : op = wPrintf ∧ ts = []
 ·
  rw [if_pos hc, if_pos ⟨hc.1, by rw [hc.2]; rfl⟩]; rfl
 ·
  rw [if_neg hc, if_neg (fun e => hc ⟨e.1, List.map_eq_nil_iff.1 e.2⟩), mp_ok, fl_nd]; rfl
theorem simple_m : Hm fl (simpleP R reOk) := fun l => by
 unfold simpleP
 rw [fx_m, nx_m, endB_m, a_m]
 split
 ·
  rw [mp_ok, fl_mk]; rfl
 ·
  split
  ·
   split
   ·
    rw [mp_ok, fl_mk]; rfl
   ·
    exact mp_bnd (h.E false _) fun t l2 => by rw [mp_ok, fl_mk]; rfl
  ·
   split
   ·
    exact mp_bnd (elem_m h _ _) fun t l2 => by rw [mp_ok, fl_nd]; rfl
   ·
    split
    ·
     exact print_m reOk h _ _
    ·
     exact mp_bnd (h.E false _) fun t l2 => by rw [mp_ok, fl_nd]; rfl
omit h in
theorem unless_m {s : List UInt8} {f : List Tok → TR PT} (hf : Hm fl f) : Hm fl (unlessP s f) := fun l => by
 unfold unlessP
 rw [fx_m]
 split
 ·
  rw [mp_ok, fl_nd]; rfl
 ·
  exact hf l
theorem steps_m : Hm (List.map fl) (stepsP R reOk) := fun l => by
 unfold stepsP
 refine mp_bnd (unless_m (simple_m reOk h) l) fun a l1 => ?_
 refine mp_bnd (want_m _ _) fun _ l2 => ?_
 rw [nls_m]
 refine mp_bnd (unless_m (h.E false) _) fun b l3 => ?_
 refine mp_bnd (want_m _ _) fun _ l4 => ?_
 rw [nls_m]
 exact mp_bnd (unless_m (simple_m reOk h) _) fun c l5 => rfl
omit h in
theorem keysB_m (l : List Tok) : keysB (l.map fk) = keysB l := by
 match l with
 | [] => rfl
 | [_] => rfl
 | [_, _] => rfl
 | [_, _, _] => rfl
 | _ :: _ :: _ :: _ :: _ => rfl
/-- What a for has within its brackets, without places. -/
def fl3 (x : List UInt8 × Tok × List PT) : List UInt8 × Tok × List PT := (x.1, fk x.2.1, x.2.2.map fl)
theorem for_m : Hm fl3 (forP R reOk) := fun l => by
 unfold forP
 rw [keysB_m, nx_m, nx_m, nx_m, tk_m, tk_m]
 split
 ·
  rw [mp_ok]; unfold fl3; simp only [List.map_cons, List.map_nil]; rw [fl_named]; rfl
 ·
  exact mp_bnd (steps_m reOk h l) fun ks l2 => rfl
end
section
variable (reOk : List UInt8 → Bool) {R : Rc} (h : RcM R) {S : List Tok → TR PT} (hS : Hm fl S)
include hS
theorem blockL_m : ∀ (n : Nat) (l : List Tok) (ts : List PT), blockL S n (l.map fk) (ts.map fl) = mp fl (blockL S n l ts)
 | 0, _, _ => rfl
 | n + 1, l, ts => by
  unfold blockL
  rw [seps_m, fx_m, nx_m]
  split
  ·
   rw [mp_ok, fl_nd]
  ·
   refine mp_bnd (hS _) fun t l2 => ?_
   have := blockL_m n l2 (ts ++ [t])
   rwa [List.map_append] at this
theorem block_m : Hm fl (blockP S) := fun l => by
 unfold blockP
 refine mp_bnd (want_m _ _) fun _ l2 => ?_
 rw [List.length_map]
 exact blockL_m hS _ l2 []
theorem body_m : Hm fl (bodyP S) := fun l => by
 unfold bodyP
 rw [nls_m]
 exact hS _
omit hS in
theorem else_m (l : List Tok) : elseP (l.map fk) = (elseP l).map (List.map fk) := by
 unfold elseP
 simp only [nls_m, fx_m, nx_m]
 rw [show (if fx (nlsP l) = [59] then (nx (nlsP l)).map fk else (nlsP l).map fk) = (if fx (nlsP l) = [59] then nx (nlsP l) else nlsP l).map fk from by split <;> rfl]
 rw [nls_m, fx_m, nx_m]
 generalize (if fx (nlsP l) = [59] then nx (nlsP l) else nlsP l) = l2
 by_cases hc : fx (nlsP l2) = [101, 108, 115, 101]
 ·
  rw [if_pos hc, if_pos hc]; rfl
 ·
  rw [if_neg hc, if_neg hc]; rfl
include h
theorem choice_m : Hm fl (choiceP R S) := fun l => by
 unfold choiceP
 refine mp_bnd (within_m (h.E false) _ _ l) fun c l2 => ?_
 refine mp_bnd (body_m hS l2) fun y l3 => ?_
 rw [else_m]
 cases elseP l3 with
 | none => simp only [Option.map_none]; rw [mp_ok, fl_nd]; rfl
 | some l4 =>
  simp only [Option.map_some]
  exact mp_bnd (body_m hS l4) fun z l5 => by rw [mp_ok, fl_nd]; rfl
theorem loop_m : Hm fl (loopP R S reOk) := fun l => by
 unfold loopP
 refine mp_bnd (within_m (for_m reOk h) _ _ l) fun x l2 => ?_
 exact mp_bnd (body_m hS l2) fun b l3 => by rw [mp_ok, fl_named, List.map_append]; rfl
theorem stmt_m : Hm fl (stmtP R S reOk) := fun l => by
 unfold stmtP
 rw [fx_m, nx_m]
 split
 ·
  exact block_m hS l
 ·
  split
  ·
   rw [mp_ok, fl_nd]; rfl
  ·
   split
   ·
    exact choice_m h hS _
   ·
    split
    ·
     refine mp_bnd (within_m (h.E false) _ _ _) fun c l2 => ?_
     exact mp_bnd (body_m hS l2) fun b l3 => by rw [mp_ok, fl_nd]; rfl
    ·
     split
     ·
      exact loop_m reOk h hS _
     ·
      refine mp_bnd (simple_m reOk h l) fun t l2 => ?_
      rw [k_m, fx_m, nx_m, ref_m]
      split
      ·
       rfl
      ·
       split <;> rfl
end
theorem st_m (reOk : List UInt8 → Bool) : ∀ n, Hm fl (stP reOk n)
 | 0 => fun l => by show Except.error (deepE _) = _; rw [deep_m]; rfl
 | n + 1 => stmt_m reOk (rc_m reOk n) (st_m reOk n)
section
variable (reOk : List UInt8 → Bool)
theorem param_m : Hm fl paramP := fun l => by
 unfold paramP
 rw [k_m, nx_m, ref_m, tk_m]
 split
 ·
  rw [mp_ok, fl_named]; rfl
 ·
  rfl
theorem func_m : Hm fl (funcP reOk) := fun l => by
 unfold funcP
 rw [k_m, nx_m, ref_m, tk_m]
 split
 ·
  refine mp_bnd (within_m (args_m param_m) _ _ _) fun ks l2 => ?_
  rw [nls_m]
  exact mp_bnd (block_m (st_m reOk 50) _) fun b l3 => by rw [mp_ok, fl_named, List.map_append]; rfl
 ·
  rfl
theorem item_m : Hm fl (itemP reOk) := fun l => by
 have hb : ∀ (op : List UInt8) (xs : List PT) (l2 : List Tok), bnd (blockP (stP reOk 50) (l2.map fk)) (fun b l3 => .ok (nd op (xs.map fl ++ [b]), l3)) = mp fl (bnd (blockP (stP reOk 50) l2) fun b l3 => .ok (nd op (xs ++ [b]), l3)) := fun op xs l2 =>
  mp_bnd (block_m (st_m reOk 50) _) fun b l3 => by rw [mp_ok, fl_nd, List.map_append]; rfl
 unfold itemP
 rw [fx_m, nx_m]
 split
 ·
  exact hb _ [] _
 ·
  split
  ·
   exact hb _ [] _
  ·
   split
   ·
    exact func_m reOk _
   ·
    split
    ·
     have := hb oRule [nd [97, 108, 119, 97, 121, 115] []] l
     rwa [List.map_cons, List.map_nil, fl_nd] at this
    ·
     refine mp_bnd ((rc_m reOk 50).E false l) fun e l2 => ?_
     rw [fx_m, k_m, ref_m]
     split
     ·
      exact hb oRule [e] l2
     ·
      split
      ·
       rw [mp_ok, fl_nd, List.map_cons, List.map_cons, fl_nd]; rfl
      ·
       rfl
theorem items_m : ∀ (n : Nat) (l : List Tok) (ts : List PT), itemsL reOk n (l.map fk) (ts.map fl) = mp fl (itemsL reOk n l ts)
 | 0, _, _ => rfl
 | n + 1, l, ts => by
  unfold itemsL
  rw [seps_m, k_m]
  split
  ·
   rw [mp_ok, fl_nd]
  ·
   refine mp_bnd (item_m reOk _) fun t l2 => ?_
   have := items_m n l2 (ts ++ [t])
   rwa [List.map_append] at this
theorem prog_m : Hm fl (progP reOk) := fun l => by
 unfold progP
 rw [List.length_map]
 exact items_m reOk _ l []
end
/-- More rounds than tokens: so many as there are. -/
theorem items_more (reOk : List UInt8 → Bool) : ∀ (n m : Nat) (l : List Tok) (ts : List PT), l.length < n → l.length < m → Tl l → itemsL reOk n l ts = itemsL reOk m l ts
 | 0, _, _, _, h, _, _ => by omega
 | _, 0, _, _, _, h, _ => by omega
 | n + 1, m + 1, l, ts, h1, h2, hl => by
  unfold itemsL
  split
  ·
   rfl
  ·
   have hs := hl.seps
   have hg := good_item reOk _ hs.2.2
   cases hx : itemP reOk (sepsP l) with
   | error e => rfl
   | ok x =>
    obtain ⟨u, l2⟩ := x
    rw [hx] at hg
    rw [bnd_ok, bnd_ok]
    have h3 := hg.2.2 rfl
    have h4 := hs.1.length_le
    exact items_more reOk n m l2 _ (by omega) (by omega) (hs.2.2.suf hg.1 hg.2.1)
end Go.Proofs.YtmbfdkiejneheaaGreatDoor
