/-
 CONTRACT of layer 13's taken: what a function of the language takes.
-/
import Derived.Test.YtmbfdkiejneheaaGreatDoorPaW5
namespace Go.Proofs.YtmbfdkiejneheaaGreatDoor
open Go.RowKit

/-- The cells of a row's node. -/
theorem anRow_cells {w : World} {base g c n : Nat} {ns : List An} (h : w.ownsRow base 25 4 (.slice (some ⟨g, 0, none⟩) n c) n (anRow ns)) (i : Nat) (x : An) (hx : ns[i]? = some x) :
  (w.cell? ⟨g, i * 4, none⟩ = some (.string x.op) ∧ w.cell? ⟨g, i * 4 + 1, none⟩ = some (.string x.tx) ∧ w.cell? ⟨g, i * 4 + 2, none⟩ = some (.int .i64 x.pl) ∧ w.cell? ⟨g, i * 4 + 3, none⟩ = some (.slice x.kp x.kn x.kc)) ∧ ∀ j, w.frozen? ⟨g, j, none⟩ = false := by
 have hi : i < ns.length := by
  rcases Nat.lt_or_ge i ns.length with h | h
  ·
   exact h
  ·
   rw [List.getElem?_eq_none h] at hx; cases hx
 have he : ns[i] = x := by rw [List.getElem?_eq_getElem hi] at hx; exact Option.some.inj hx
 have hl : n = ns.length := by
  have h1 := h.1
  rw [anRow_len] at h1
  omega
 subst hl
 refine ⟨⟨?_, ?_, ?_, ?_⟩, fun j => h.frozenAt j⟩
 ·
  rw [h.cellAt (i * 4) (by omega), show i * 4 = i * 4 + 0 from rfl, anRow_get ns i 0 hi (by omega), he]; rfl
 ·
  rw [h.cellAt (i * 4 + 1) (by omega), anRow_get ns i 1 hi (by omega), he]; rfl
 ·
  rw [h.cellAt (i * 4 + 2) (by omega), anRow_get ns i 2 hi (by omega), he]; rfl
 ·
  rw [h.cellAt (i * 4 + 3) (by omega), anRow_get ns i 3 hi (by omega), he]; rfl
/-- What taken tells. -/
def TkPost (t : Tok) (ts : List PT) (n0 : Nat) (w : World) (e : Ending) (w' : World) : Prop :=
 ∃ us ms q d ok, e = .returned (.tuple #[.slice q ms.length d, .bool ok]) ∧ RwA w' n0 us ms (.slice q ms.length d) ∧ Below n0 w w' ∧ ms.length ≤ 6001 ∧ ((ok = true ∧ takenP t ts = some us) ∨ (ok = false ∧ takenP t ts = none))
set_option maxHeartbeats 8000000 in
set_option maxRecDepth 100000 in
theorem tk_length (k a : Nat) (ts : List PT) (ns : List An) (p : Option Addr) (c n0 : Nat) (w : World) (h : RwA w n0 ts ns (.slice p ns.length c)) (hn : ns.length ≤ 6000) (hb : n0 ≤ w.heap.size) : Calls Tryz.prog 129 #[tokV ⟨k, [108, 101, 110, 103, 116, 104], a⟩, .slice p ns.length c] w (TkPost ⟨k, [108, 101, 110, 103, 116, 104], a⟩ ts n0 w) := by
 have hlen := h.tr.len
 have HR := kH (h.below ((Below.refl _ _).alloc (Nat.le_refl _) (.cells #[.int .i64 (k : Int), .string ⟨([108, 101, 110, 103, 116, 104]).toArray⟩, .int .i64 (a : Int)] 60)))
 have HB := kH ((Below.refl n0 w).alloc hb (.cells #[.int .i64 (k : Int), .string ⟨([108, 101, 110, 103, 116, 104]).toArray⟩, .int .i64 (a : Int)] 60))
 unfold tokV
 rcases (show (0 ≤ ns.length ∧ ns.length ≤ 1) ∨ (1 < ns.length) from by omega) with hc | hc
 ·
  have HX : Hid ((ts.length ≤ 1)) := kH (by omega)
  have e1 : (0 : Int) ≤ (ns.length : Int) := by omega
  have e2 : (ns.length : Int) ≤ 1 := by omega
  clear hc
  go_enter Tryz.func129, Tryz.ntmps129
  go_wp2_with fail
  exact bodyPost_ret (v := .tuple #[.slice p ns.length c, .bool true]) (by simp [results, Tryz.results129, go_sem] <;> omega) rfl ⟨ts, ns, p, c, true, rfl, HR.out, HB.out, by omega, .inl ⟨rfl, by unfold takenP; rw [if_pos (show ([108, 101, 110, 103, 116, 104] : List UInt8) = bLength from by decide)]; rw [if_pos HX.out]⟩⟩
 ·
  have HX : Hid (¬ (ts.length ≤ 1)) := kH (by omega)
  have e1 : (0 : Int) ≤ (ns.length : Int) := by omega
  have e2 : ¬ (ns.length : Int) ≤ 1 := by omega
  clear hc
  go_enter Tryz.func129, Tryz.ntmps129
  go_wp2_with fail
  exact bodyPost_ret (v := .tuple #[.slice p ns.length c, .bool false]) (by simp [results, Tryz.results129, go_sem] <;> omega) rfl ⟨ts, ns, p, c, false, rfl, HR.out, HB.out, by omega, .inr ⟨rfl, by unfold takenP; rw [if_pos (show ([108, 101, 110, 103, 116, 104] : List UInt8) = bLength from by decide)]; rw [if_neg HX.out]⟩⟩
set_option maxHeartbeats 8000000 in
set_option maxRecDepth 100000 in
theorem tk_rand (k a : Nat) (ts : List PT) (ns : List An) (p : Option Addr) (c n0 : Nat) (w : World) (h : RwA w n0 ts ns (.slice p ns.length c)) (hn : ns.length ≤ 6000) (hb : n0 ≤ w.heap.size) : Calls Tryz.prog 129 #[tokV ⟨k, [114, 97, 110, 100], a⟩, .slice p ns.length c] w (TkPost ⟨k, [114, 97, 110, 100], a⟩ ts n0 w) := by
 have hlen := h.tr.len
 have HR := kH (h.below ((Below.refl _ _).alloc (Nat.le_refl _) (.cells #[.int .i64 (k : Int), .string ⟨([114, 97, 110, 100]).toArray⟩, .int .i64 (a : Int)] 60)))
 have HB := kH ((Below.refl n0 w).alloc hb (.cells #[.int .i64 (k : Int), .string ⟨([114, 97, 110, 100]).toArray⟩, .int .i64 (a : Int)] 60))
 unfold tokV
 rcases (show (0 ≤ ns.length ∧ ns.length ≤ 0) ∨ (0 < ns.length) from by omega) with hc | hc
 ·
  have HX : Hid ((ts.length = 0)) := kH (by omega)
  have e1 : (0 : Int) ≤ (ns.length : Int) := by omega
  have e2 : (ns.length : Int) ≤ 0 := by omega
  clear hc
  go_enter Tryz.func129, Tryz.ntmps129
  go_wp2_with fail
  exact bodyPost_ret (v := .tuple #[.slice p ns.length c, .bool true]) (by simp [results, Tryz.results129, go_sem] <;> (first | omega | exact List.length_eq_zero_iff.1 (by omega) | exact ⟨by omega, fun e => by have : ts.length = 0 := (by rw [e]; rfl); omega⟩)) rfl ⟨ts, ns, p, c, true, rfl, HR.out, HB.out, by omega, .inl ⟨rfl, by unfold takenP; rw [if_neg (show ¬ (([114, 97, 110, 100] : List UInt8) = bLength) from by decide)]; rw [if_pos (show ([114, 97, 110, 100] : List UInt8) = bRand from by decide)]; rw [if_pos HX.out]⟩⟩
 ·
  have HX : Hid (¬ (ts.length = 0)) := kH (by omega)
  have e1 : (0 : Int) ≤ (ns.length : Int) := by omega
  have e2 : ¬ (ns.length : Int) ≤ 0 := by omega
  clear hc
  go_enter Tryz.func129, Tryz.ntmps129
  go_wp2_with fail
  exact bodyPost_ret (v := .tuple #[.slice p ns.length c, .bool false]) (by simp [results, Tryz.results129, go_sem] <;> (first | omega | exact List.length_eq_zero_iff.1 (by omega) | exact ⟨by omega, fun e => by have : ts.length = 0 := (by rw [e]; rfl); omega⟩)) rfl ⟨ts, ns, p, c, false, rfl, HR.out, HB.out, by omega, .inr ⟨rfl, by unfold takenP; rw [if_neg (show ¬ (([114, 97, 110, 100] : List UInt8) = bLength) from by decide)]; rw [if_pos (show ([114, 97, 110, 100] : List UInt8) = bRand from by decide)]; rw [if_neg HX.out]⟩⟩
set_option maxHeartbeats 8000000 in
set_option maxRecDepth 100000 in
theorem tk_sprintf (k a : Nat) (ts : List PT) (ns : List An) (p : Option Addr) (c n0 : Nat) (w : World) (h : RwA w n0 ts ns (.slice p ns.length c)) (hn : ns.length ≤ 6000) (hb : n0 ≤ w.heap.size) : Calls Tryz.prog 129 #[tokV ⟨k, [115, 112, 114, 105, 110, 116, 102], a⟩, .slice p ns.length c] w (TkPost ⟨k, [115, 112, 114, 105, 110, 116, 102], a⟩ ts n0 w) := by
 have hlen := h.tr.len
 have HR := kH (h.below ((Below.refl _ _).alloc (Nat.le_refl _) (.cells #[.int .i64 (k : Int), .string ⟨([115, 112, 114, 105, 110, 116, 102]).toArray⟩, .int .i64 (a : Int)] 60)))
 have HB := kH ((Below.refl n0 w).alloc hb (.cells #[.int .i64 (k : Int), .string ⟨([115, 112, 114, 105, 110, 116, 102]).toArray⟩, .int .i64 (a : Int)] 60))
 unfold tokV
 rcases (show (ns.length < 1) ∨ (1 ≤ ns.length) from by omega) with hc | hc
 ·
  have HX : Hid (¬ (1 ≤ ts.length)) := kH (by omega)
  have e1 : ¬ (1 : Int) ≤ (ns.length : Int) := by omega
  clear hc
  go_enter Tryz.func129, Tryz.ntmps129
  go_wp2_with fail
  exact bodyPost_ret (v := .tuple #[.slice p ns.length c, .bool false]) (by simp [results, Tryz.results129, go_sem] <;> omega) rfl ⟨ts, ns, p, c, false, rfl, HR.out, HB.out, by omega, .inr ⟨rfl, by unfold takenP; rw [if_neg (show ¬ (([115, 112, 114, 105, 110, 116, 102] : List UInt8) = bLength) from by decide)]; rw [if_neg (show ¬ (([115, 112, 114, 105, 110, 116, 102] : List UInt8) = bRand) from by decide)]; rw [if_pos (show ([115, 112, 114, 105, 110, 116, 102] : List UInt8) = bSprintf from by decide)]; rw [if_neg HX.out]⟩⟩
 ·
  have HX : Hid ((1 ≤ ts.length)) := kH (by omega)
  have e1 : (1 : Int) ≤ (ns.length : Int) := by omega
  clear hc
  go_enter Tryz.func129, Tryz.ntmps129
  go_wp2_with fail
  exact bodyPost_ret (v := .tuple #[.slice p ns.length c, .bool true]) (by simp [results, Tryz.results129, go_sem] <;> omega) rfl ⟨ts, ns, p, c, true, rfl, HR.out, HB.out, by omega, .inl ⟨rfl, by unfold takenP; rw [if_neg (show ¬ (([115, 112, 114, 105, 110, 116, 102] : List UInt8) = bLength) from by decide)]; rw [if_neg (show ¬ (([115, 112, 114, 105, 110, 116, 102] : List UInt8) = bRand) from by decide)]; rw [if_pos (show ([115, 112, 114, 105, 110, 116, 102] : List UInt8) = bSprintf from by decide)]; rw [if_pos HX.out]⟩⟩
set_option maxHeartbeats 8000000 in
set_option maxRecDepth 100000 in
theorem tk_index (k a : Nat) (ts : List PT) (ns : List An) (p : Option Addr) (c n0 : Nat) (w : World) (h : RwA w n0 ts ns (.slice p ns.length c)) (hn : ns.length ≤ 6000) (hb : n0 ≤ w.heap.size) : Calls Tryz.prog 129 #[tokV ⟨k, [105, 110, 100, 101, 120], a⟩, .slice p ns.length c] w (TkPost ⟨k, [105, 110, 100, 101, 120], a⟩ ts n0 w) := by
 have hlen := h.tr.len
 have HR := kH (h.below ((Below.refl _ _).alloc (Nat.le_refl _) (.cells #[.int .i64 (k : Int), .string ⟨([105, 110, 100, 101, 120]).toArray⟩, .int .i64 (a : Int)] 60)))
 have HB := kH ((Below.refl n0 w).alloc hb (.cells #[.int .i64 (k : Int), .string ⟨([105, 110, 100, 101, 120]).toArray⟩, .int .i64 (a : Int)] 60))
 unfold tokV
 rcases (show (ns.length < 2) ∨ (2 ≤ ns.length ∧ ns.length ≤ 2) ∨ (2 < ns.length) from by omega) with hc | hc | hc
 ·
  have HX : Hid (¬ (ts.length = 2)) := kH (by omega)
  have e1 : ¬ (2 : Int) ≤ (ns.length : Int) := by omega
  clear hc
  go_enter Tryz.func129, Tryz.ntmps129
  go_wp2_with fail
  exact bodyPost_ret (v := .tuple #[.slice p ns.length c, .bool false]) (by simp [results, Tryz.results129, go_sem] <;> omega) rfl ⟨ts, ns, p, c, false, rfl, HR.out, HB.out, by omega, .inr ⟨rfl, by unfold takenP; rw [if_neg (show ¬ (([105, 110, 100, 101, 120] : List UInt8) = bLength) from by decide)]; rw [if_neg (show ¬ (([105, 110, 100, 101, 120] : List UInt8) = bRand) from by decide)]; rw [if_neg (show ¬ (([105, 110, 100, 101, 120] : List UInt8) = bSprintf) from by decide)]; rw [if_pos (show ([105, 110, 100, 101, 120] : List UInt8) = oIndex ∨ ([105, 110, 100, 101, 120] : List UInt8) = bMatch from by decide)]; rw [if_neg HX.out]⟩⟩
 ·
  have HX : Hid ((ts.length = 2)) := kH (by omega)
  have e1 : (2 : Int) ≤ (ns.length : Int) := by omega
  have e2 : (ns.length : Int) ≤ 2 := by omega
  clear hc
  go_enter Tryz.func129, Tryz.ntmps129
  go_wp2_with fail
  exact bodyPost_ret (v := .tuple #[.slice p ns.length c, .bool true]) (by simp [results, Tryz.results129, go_sem] <;> omega) rfl ⟨ts, ns, p, c, true, rfl, HR.out, HB.out, by omega, .inl ⟨rfl, by unfold takenP; rw [if_neg (show ¬ (([105, 110, 100, 101, 120] : List UInt8) = bLength) from by decide)]; rw [if_neg (show ¬ (([105, 110, 100, 101, 120] : List UInt8) = bRand) from by decide)]; rw [if_neg (show ¬ (([105, 110, 100, 101, 120] : List UInt8) = bSprintf) from by decide)]; rw [if_pos (show ([105, 110, 100, 101, 120] : List UInt8) = oIndex ∨ ([105, 110, 100, 101, 120] : List UInt8) = bMatch from by decide)]; rw [if_pos HX.out]⟩⟩
 ·
  have HX : Hid (¬ (ts.length = 2)) := kH (by omega)
  have e1 : (2 : Int) ≤ (ns.length : Int) := by omega
  have e2 : ¬ (ns.length : Int) ≤ 2 := by omega
  clear hc
  go_enter Tryz.func129, Tryz.ntmps129
  go_wp2_with fail
  exact bodyPost_ret (v := .tuple #[.slice p ns.length c, .bool false]) (by simp [results, Tryz.results129, go_sem] <;> omega) rfl ⟨ts, ns, p, c, false, rfl, HR.out, HB.out, by omega, .inr ⟨rfl, by unfold takenP; rw [if_neg (show ¬ (([105, 110, 100, 101, 120] : List UInt8) = bLength) from by decide)]; rw [if_neg (show ¬ (([105, 110, 100, 101, 120] : List UInt8) = bRand) from by decide)]; rw [if_neg (show ¬ (([105, 110, 100, 101, 120] : List UInt8) = bSprintf) from by decide)]; rw [if_pos (show ([105, 110, 100, 101, 120] : List UInt8) = oIndex ∨ ([105, 110, 100, 101, 120] : List UInt8) = bMatch from by decide)]; rw [if_neg HX.out]⟩⟩
set_option maxHeartbeats 8000000 in
set_option maxRecDepth 100000 in
theorem tk_match (k a : Nat) (ts : List PT) (ns : List An) (p : Option Addr) (c n0 : Nat) (w : World) (h : RwA w n0 ts ns (.slice p ns.length c)) (hn : ns.length ≤ 6000) (hb : n0 ≤ w.heap.size) : Calls Tryz.prog 129 #[tokV ⟨k, [109, 97, 116, 99, 104], a⟩, .slice p ns.length c] w (TkPost ⟨k, [109, 97, 116, 99, 104], a⟩ ts n0 w) := by
 have hlen := h.tr.len
 have HR := kH (h.below ((Below.refl _ _).alloc (Nat.le_refl _) (.cells #[.int .i64 (k : Int), .string ⟨([109, 97, 116, 99, 104]).toArray⟩, .int .i64 (a : Int)] 60)))
 have HB := kH ((Below.refl n0 w).alloc hb (.cells #[.int .i64 (k : Int), .string ⟨([109, 97, 116, 99, 104]).toArray⟩, .int .i64 (a : Int)] 60))
 unfold tokV
 rcases (show (ns.length < 2) ∨ (2 ≤ ns.length ∧ ns.length ≤ 2) ∨ (2 < ns.length) from by omega) with hc | hc | hc
 ·
  have HX : Hid (¬ (ts.length = 2)) := kH (by omega)
  have e1 : ¬ (2 : Int) ≤ (ns.length : Int) := by omega
  clear hc
  go_enter Tryz.func129, Tryz.ntmps129
  go_wp2_with fail
  exact bodyPost_ret (v := .tuple #[.slice p ns.length c, .bool false]) (by simp [results, Tryz.results129, go_sem] <;> omega) rfl ⟨ts, ns, p, c, false, rfl, HR.out, HB.out, by omega, .inr ⟨rfl, by unfold takenP; rw [if_neg (show ¬ (([109, 97, 116, 99, 104] : List UInt8) = bLength) from by decide)]; rw [if_neg (show ¬ (([109, 97, 116, 99, 104] : List UInt8) = bRand) from by decide)]; rw [if_neg (show ¬ (([109, 97, 116, 99, 104] : List UInt8) = bSprintf) from by decide)]; rw [if_pos (show ([109, 97, 116, 99, 104] : List UInt8) = oIndex ∨ ([109, 97, 116, 99, 104] : List UInt8) = bMatch from by decide)]; rw [if_neg HX.out]⟩⟩
 ·
  have HX : Hid ((ts.length = 2)) := kH (by omega)
  have e1 : (2 : Int) ≤ (ns.length : Int) := by omega
  have e2 : (ns.length : Int) ≤ 2 := by omega
  clear hc
  go_enter Tryz.func129, Tryz.ntmps129
  go_wp2_with fail
  exact bodyPost_ret (v := .tuple #[.slice p ns.length c, .bool true]) (by simp [results, Tryz.results129, go_sem] <;> omega) rfl ⟨ts, ns, p, c, true, rfl, HR.out, HB.out, by omega, .inl ⟨rfl, by unfold takenP; rw [if_neg (show ¬ (([109, 97, 116, 99, 104] : List UInt8) = bLength) from by decide)]; rw [if_neg (show ¬ (([109, 97, 116, 99, 104] : List UInt8) = bRand) from by decide)]; rw [if_neg (show ¬ (([109, 97, 116, 99, 104] : List UInt8) = bSprintf) from by decide)]; rw [if_pos (show ([109, 97, 116, 99, 104] : List UInt8) = oIndex ∨ ([109, 97, 116, 99, 104] : List UInt8) = bMatch from by decide)]; rw [if_pos HX.out]⟩⟩
 ·
  have HX : Hid (¬ (ts.length = 2)) := kH (by omega)
  have e1 : (2 : Int) ≤ (ns.length : Int) := by omega
  have e2 : ¬ (ns.length : Int) ≤ 2 := by omega
  clear hc
  go_enter Tryz.func129, Tryz.ntmps129
  go_wp2_with fail
  exact bodyPost_ret (v := .tuple #[.slice p ns.length c, .bool false]) (by simp [results, Tryz.results129, go_sem] <;> omega) rfl ⟨ts, ns, p, c, false, rfl, HR.out, HB.out, by omega, .inr ⟨rfl, by unfold takenP; rw [if_neg (show ¬ (([109, 97, 116, 99, 104] : List UInt8) = bLength) from by decide)]; rw [if_neg (show ¬ (([109, 97, 116, 99, 104] : List UInt8) = bRand) from by decide)]; rw [if_neg (show ¬ (([109, 97, 116, 99, 104] : List UInt8) = bSprintf) from by decide)]; rw [if_pos (show ([109, 97, 116, 99, 104] : List UInt8) = oIndex ∨ ([109, 97, 116, 99, 104] : List UInt8) = bMatch from by decide)]; rw [if_neg HX.out]⟩⟩
set_option maxHeartbeats 8000000 in
set_option maxRecDepth 100000 in
theorem tk_substr (k a : Nat) (ts : List PT) (ns : List An) (p : Option Addr) (c n0 : Nat) (w : World) (h : RwA w n0 ts ns (.slice p ns.length c)) (hn : ns.length ≤ 6000) (hb : n0 ≤ w.heap.size) : Calls Tryz.prog 129 #[tokV ⟨k, [115, 117, 98, 115, 116, 114], a⟩, .slice p ns.length c] w (TkPost ⟨k, [115, 117, 98, 115, 116, 114], a⟩ ts n0 w) := by
 have hlen := h.tr.len
 have HR := kH (h.below ((Below.refl _ _).alloc (Nat.le_refl _) (.cells #[.int .i64 (k : Int), .string ⟨([115, 117, 98, 115, 116, 114]).toArray⟩, .int .i64 (a : Int)] 60)))
 have HB := kH ((Below.refl n0 w).alloc hb (.cells #[.int .i64 (k : Int), .string ⟨([115, 117, 98, 115, 116, 114]).toArray⟩, .int .i64 (a : Int)] 60))
 unfold tokV
 rcases (show (ns.length < 2) ∨ (2 ≤ ns.length ∧ ns.length ≤ 3) ∨ (3 < ns.length) from by omega) with hc | hc | hc
 ·
  have HX : Hid (¬ (2 ≤ ts.length ∧ ts.length ≤ 3)) := kH (by omega)
  have e1 : ¬ (2 : Int) ≤ (ns.length : Int) := by omega
  clear hc
  go_enter Tryz.func129, Tryz.ntmps129
  go_wp2_with fail
  exact bodyPost_ret (v := .tuple #[.slice p ns.length c, .bool false]) (by simp [results, Tryz.results129, go_sem] <;> omega) rfl ⟨ts, ns, p, c, false, rfl, HR.out, HB.out, by omega, .inr ⟨rfl, by unfold takenP; rw [if_neg (show ¬ (([115, 117, 98, 115, 116, 114] : List UInt8) = bLength) from by decide)]; rw [if_neg (show ¬ (([115, 117, 98, 115, 116, 114] : List UInt8) = bRand) from by decide)]; rw [if_neg (show ¬ (([115, 117, 98, 115, 116, 114] : List UInt8) = bSprintf) from by decide)]; rw [if_neg (show ¬ (([115, 117, 98, 115, 116, 114] : List UInt8) = oIndex ∨ ([115, 117, 98, 115, 116, 114] : List UInt8) = bMatch) from by decide)]; rw [if_neg (show ¬ (([115, 117, 98, 115, 116, 114] : List UInt8) = bSub ∨ ([115, 117, 98, 115, 116, 114] : List UInt8) = bGsub) from by decide)]; rw [if_neg (show ¬ (([115, 117, 98, 115, 116, 114] : List UInt8) = bSplit) from by decide)]; rw [if_pos (show ([115, 117, 98, 115, 116, 114] : List UInt8) = bSubstr from by decide)]; rw [if_neg HX.out]⟩⟩
 ·
  have HX : Hid ((2 ≤ ts.length ∧ ts.length ≤ 3)) := kH (by omega)
  have e1 : (2 : Int) ≤ (ns.length : Int) := by omega
  have e2 : (ns.length : Int) ≤ 3 := by omega
  clear hc
  go_enter Tryz.func129, Tryz.ntmps129
  go_wp2_with fail
  exact bodyPost_ret (v := .tuple #[.slice p ns.length c, .bool true]) (by simp [results, Tryz.results129, go_sem] <;> omega) rfl ⟨ts, ns, p, c, true, rfl, HR.out, HB.out, by omega, .inl ⟨rfl, by unfold takenP; rw [if_neg (show ¬ (([115, 117, 98, 115, 116, 114] : List UInt8) = bLength) from by decide)]; rw [if_neg (show ¬ (([115, 117, 98, 115, 116, 114] : List UInt8) = bRand) from by decide)]; rw [if_neg (show ¬ (([115, 117, 98, 115, 116, 114] : List UInt8) = bSprintf) from by decide)]; rw [if_neg (show ¬ (([115, 117, 98, 115, 116, 114] : List UInt8) = oIndex ∨ ([115, 117, 98, 115, 116, 114] : List UInt8) = bMatch) from by decide)]; rw [if_neg (show ¬ (([115, 117, 98, 115, 116, 114] : List UInt8) = bSub ∨ ([115, 117, 98, 115, 116, 114] : List UInt8) = bGsub) from by decide)]; rw [if_neg (show ¬ (([115, 117, 98, 115, 116, 114] : List UInt8) = bSplit) from by decide)]; rw [if_pos (show ([115, 117, 98, 115, 116, 114] : List UInt8) = bSubstr from by decide)]; rw [if_pos HX.out]⟩⟩
 ·
  have HX : Hid (¬ (2 ≤ ts.length ∧ ts.length ≤ 3)) := kH (by omega)
  have e1 : (2 : Int) ≤ (ns.length : Int) := by omega
  have e2 : ¬ (ns.length : Int) ≤ 3 := by omega
  clear hc
  go_enter Tryz.func129, Tryz.ntmps129
  go_wp2_with fail
  exact bodyPost_ret (v := .tuple #[.slice p ns.length c, .bool false]) (by simp [results, Tryz.results129, go_sem] <;> omega) rfl ⟨ts, ns, p, c, false, rfl, HR.out, HB.out, by omega, .inr ⟨rfl, by unfold takenP; rw [if_neg (show ¬ (([115, 117, 98, 115, 116, 114] : List UInt8) = bLength) from by decide)]; rw [if_neg (show ¬ (([115, 117, 98, 115, 116, 114] : List UInt8) = bRand) from by decide)]; rw [if_neg (show ¬ (([115, 117, 98, 115, 116, 114] : List UInt8) = bSprintf) from by decide)]; rw [if_neg (show ¬ (([115, 117, 98, 115, 116, 114] : List UInt8) = oIndex ∨ ([115, 117, 98, 115, 116, 114] : List UInt8) = bMatch) from by decide)]; rw [if_neg (show ¬ (([115, 117, 98, 115, 116, 114] : List UInt8) = bSub ∨ ([115, 117, 98, 115, 116, 114] : List UInt8) = bGsub) from by decide)]; rw [if_neg (show ¬ (([115, 117, 98, 115, 116, 114] : List UInt8) = bSplit) from by decide)]; rw [if_pos (show ([115, 117, 98, 115, 116, 114] : List UInt8) = bSubstr from by decide)]; rw [if_neg HX.out]⟩⟩
set_option maxHeartbeats 8000000 in
set_option maxRecDepth 100000 in
theorem tk_other (k a : Nat) (tx : List UInt8) (q0 : ¬ tx = bLength) (q1 : ¬ tx = bRand) (q2 : ¬ tx = bSprintf) (q3 : ¬ tx = oIndex) (q4 : ¬ tx = bMatch) (q5 : ¬ tx = bSub) (q6 : ¬ tx = bGsub) (q7 : ¬ tx = bSplit) (q8 : ¬ tx = bSubstr) (ts : List PT) (ns : List An) (p : Option Addr) (c n0 : Nat) (w : World) (h : RwA w n0 ts ns (.slice p ns.length c)) (hn : ns.length ≤ 6000) (hb : n0 ≤ w.heap.size) : Calls Tryz.prog 129 #[tokV ⟨k, tx, a⟩, .slice p ns.length c] w (TkPost ⟨k, tx, a⟩ ts n0 w) := by
 have hlen := h.tr.len
 have HR := kH (h.below ((Below.refl _ _).alloc (Nat.le_refl _) (.cells #[.int .i64 (k : Int), .string ⟨(tx).toArray⟩, .int .i64 (a : Int)] 60)))
 have HB := kH ((Below.refl n0 w).alloc hb (.cells #[.int .i64 (k : Int), .string ⟨(tx).toArray⟩, .int .i64 (a : Int)] 60))
 have g0 : (tx == [108, 101, 110, 103, 116, 104]) = false := by rw [beq_eq_false_iff_ne]; exact q0
 have g1 : (tx == [114, 97, 110, 100]) = false := by rw [beq_eq_false_iff_ne]; exact q1
 have g2 : (tx == [115, 112, 114, 105, 110, 116, 102]) = false := by rw [beq_eq_false_iff_ne]; exact q2
 have g3 : (tx == [105, 110, 100, 101, 120]) = false := by rw [beq_eq_false_iff_ne]; exact q3
 have g4 : (tx == [109, 97, 116, 99, 104]) = false := by rw [beq_eq_false_iff_ne]; exact q4
 have g5 : (tx == [115, 117, 98]) = false := by rw [beq_eq_false_iff_ne]; exact q5
 have g6 : (tx == [103, 115, 117, 98]) = false := by rw [beq_eq_false_iff_ne]; exact q6
 have g7 : (tx == [115, 112, 108, 105, 116]) = false := by rw [beq_eq_false_iff_ne]; exact q7
 have g8 : (tx == [115, 117, 98, 115, 116, 114]) = false := by rw [beq_eq_false_iff_ne]; exact q8
 unfold tokV
 rcases (show (ns.length < 1) ∨ (1 ≤ ns.length ∧ ns.length ≤ 1) ∨ (1 < ns.length) from by omega) with hc | hc | hc
 ·
  have HX : Hid (¬ (ts.length = 1)) := kH (by omega)
  have e1 : ¬ (1 : Int) ≤ (ns.length : Int) := by omega
  clear hc
  go_enter Tryz.func129, Tryz.ntmps129
  go_wp2_with fail
  exact bodyPost_ret (v := .tuple #[.slice p ns.length c, .bool false]) (by simp [results, Tryz.results129, go_sem] <;> omega) rfl ⟨ts, ns, p, c, false, rfl, HR.out, HB.out, by omega, .inr ⟨rfl, by unfold takenP; simp only [q0, q1, q2, q3, q4, q5, q6, q7, q8, or_self, if_false]; rw [if_neg HX.out]⟩⟩
 ·
  have HX : Hid ((ts.length = 1)) := kH (by omega)
  have e1 : (1 : Int) ≤ (ns.length : Int) := by omega
  have e2 : (ns.length : Int) ≤ 1 := by omega
  clear hc
  go_enter Tryz.func129, Tryz.ntmps129
  go_wp2_with fail
  exact bodyPost_ret (v := .tuple #[.slice p ns.length c, .bool true]) (by simp [results, Tryz.results129, go_sem] <;> omega) rfl ⟨ts, ns, p, c, true, rfl, HR.out, HB.out, by omega, .inl ⟨rfl, by unfold takenP; simp only [q0, q1, q2, q3, q4, q5, q6, q7, q8, or_self, if_false]; rw [if_pos HX.out]⟩⟩
 ·
  have HX : Hid (¬ (ts.length = 1)) := kH (by omega)
  have e1 : (1 : Int) ≤ (ns.length : Int) := by omega
  have e2 : ¬ (ns.length : Int) ≤ 1 := by omega
  clear hc
  go_enter Tryz.func129, Tryz.ntmps129
  go_wp2_with fail
  exact bodyPost_ret (v := .tuple #[.slice p ns.length c, .bool false]) (by simp [results, Tryz.results129, go_sem] <;> omega) rfl ⟨ts, ns, p, c, false, rfl, HR.out, HB.out, by omega, .inr ⟨rfl, by unfold takenP; simp only [q0, q1, q2, q3, q4, q5, q6, q7, q8, or_self, if_false]; rw [if_neg HX.out]⟩⟩
theorem RwA.put1 {w : World} {n0 g n c : Nat} {a b : PT} {r : List PT} {x y : An} {zs : List An} (h : RwA w n0 (a :: b :: r) (x :: y :: zs) (.slice (some ⟨g, 0, none⟩) n c)) (hn : n = (x :: y :: zs).length) (op : List UInt8) : RwA (w.setCell ⟨g, 4, none⟩ (.string (bs op))) n0 (a :: .mk op b.tx b.pl b.kids :: r) (x :: ⟨bs op, y.tx, y.pl, y.kp, y.kn, y.kc⟩ :: zs) (.slice (some ⟨g, 0, none⟩) n c) := by
 obtain ⟨h1, h2⟩ := h
 subst hn
 have hk : ∀ k, (Value.slice (some ⟨g, 0, none⟩) (x :: y :: zs).length c).ownBlock ≠ some k → (w.setCell ⟨g, 4, none⟩ (.string (bs op))).heap[k]? = w.heap[k]? := fun k hk => Below.heap_setCell w _ _ k (fun e => hk (by rw [e]; rfl))
 refine ⟨?_, ?_⟩
 ·
  have h3 := (h1.stored 4 (.string (bs op))).1
  exact h3
 ·
  unfold TreesP at h2
  obtain ⟨x1, zs1, e1, ha, h3⟩ := h2
  obtain ⟨rfl, rfl⟩ : x = x1 ∧ y :: zs = zs1 := by simpa using e1
  unfold TreesP at h3
  obtain ⟨y1, zs2, e2, hb, h4⟩ := h3
  obtain ⟨rfl, rfl⟩ : y = y1 ∧ zs = zs2 := by simpa using e2
  refine .cons (ha.kept' (fun k hk1 _ => hk k hk1.2) (fun _ h _ => h)) (.cons ?_ (TreesP.kept (fun k hk1 _ => hk k hk1.2) (fun _ h _ => h) r zs h4))
  have hb := hb.kept' (w' := w.setCell ⟨g, 4, none⟩ (.string (bs op))) (B' := FreeA n0 (.slice (some ⟨g, 0, none⟩) (x :: y :: zs).length c)) (fun k hk1 _ => hk k hk1.2) (fun _ h _ => h)
  obtain ⟨bo, bt, bp, bk⟩ := b
  unfold TreeP at hb ⊢
  obtain ⟨_, e3, e4, ms, q1, q2, q3⟩ := hb
  exact ⟨rfl, e3, e4, ms, q1, q2, q3⟩
theorem RwA.ends {w : World} {n0 : Nat} {a b : PT} {r : List PT} {ns : List An} {v : Value} (h : RwA w n0 (a :: b :: r) ns v) : ∃ x y zs g c, ns = x :: y :: zs ∧ v = .slice (some ⟨g, 0, none⟩) ns.length c ∧ y.op = bs b.op ∧ n0 ≤ g ∧ g < w.heap.size := by
 obtain ⟨h1, h2⟩ := h
 unfold TreesP at h2
 obtain ⟨x, zs1, rfl, ha, h3⟩ := h2
 unfold TreesP at h3
 obtain ⟨y, zs, rfl, hb, h4⟩ := h3
 obtain ⟨g, c, rfl, hc⟩ := rg_own_succ (n := (y :: zs).length) h1
 have := rg_own_base h1 g rfl
 exact ⟨x, y, zs, g, c, rfl, rfl, hb.opx, this.1, this.2⟩
set_option maxHeartbeats 8000000 in
set_option maxRecDepth 100000 in
theorem tk_split (k a : Nat) (ts : List PT) (ns : List An) (p : Option Addr) (c n0 : Nat) (w : World) (h : RwA w n0 ts ns (.slice p ns.length c)) (hn : ns.length ≤ 6000) (hb : n0 ≤ w.heap.size) : Calls Tryz.prog 129 #[tokV ⟨k, [115, 112, 108, 105, 116], a⟩, .slice p ns.length c] w (TkPost ⟨k, [115, 112, 108, 105, 116], a⟩ ts n0 w) := by
 have hlen := h.tr.len
 have HB := kH ((Below.refl n0 w).alloc hb (.cells #[.int .i64 (k : Int), .string ⟨([115, 112, 108, 105, 116]).toArray⟩, .int .i64 (a : Int)] 60))
 unfold tokV
 by_cases h2 : ns.length < 2
 ·
  have e1 : (ns.length : Int) < 2 := by omega
  have HX : Hid (takenP ⟨k, [115, 112, 108, 105, 116], a⟩ ts = none) := kH (by
   unfold takenP; rw [if_neg (show ¬ (([115, 112, 108, 105, 116] : List UInt8) = bLength) from by decide)]; rw [if_neg (show ¬ (([115, 112, 108, 105, 116] : List UInt8) = bRand) from by decide)]; rw [if_neg (show ¬ (([115, 112, 108, 105, 116] : List UInt8) = bSprintf) from by decide)]; rw [if_neg (show ¬ (([115, 112, 108, 105, 116] : List UInt8) = oIndex ∨ ([115, 112, 108, 105, 116] : List UInt8) = bMatch) from by decide)]; rw [if_neg (show ¬ (([115, 112, 108, 105, 116] : List UInt8) = bSub ∨ ([115, 112, 108, 105, 116] : List UInt8) = bGsub) from by decide)]; rw [if_pos (show ([115, 112, 108, 105, 116] : List UInt8) = bSplit from by decide)]; 
   rcases ts with _ | ⟨x, _ | ⟨y, r⟩⟩
   ·
    rfl
   ·
    rfl
   ·
    simp at hlen; omega)
  clear h hlen h2
  go_enter Tryz.func129, Tryz.ntmps129
  go_wp2_with fail
  exact bodyPost_ret (v := .tuple #[.slice none 0 0, .bool false]) (by simp [results, Tryz.results129, go_sem]) rfl ⟨[], [], none, 0, false, rfl, RwA.nil _ _, HB.out, by simp, .inr ⟨rfl, HX.out⟩⟩
 ·
  obtain ⟨x, y, r, rfl⟩ : ∃ x y r, ts = x :: y :: r := by
   rcases ts with _ | ⟨x, _ | ⟨y, r⟩⟩
   ·
    simp only [List.length_nil] at hlen; omega
   ·
    simp only [List.length_nil, List.length_cons] at hlen; omega
   ·
    exact ⟨x, y, r, rfl⟩
  obtain ⟨nx1, ny, zs, g, c', rfl, hv, hop, hg0, hg1⟩ := h.ends
  obtain ⟨rfl, rfl⟩ : p = some ⟨g, 0, none⟩ ∧ c = c' := by injection hv with h1 h2 h3; exact ⟨h1, h3⟩
  clear hv
  have HR := kH (h.below ((Below.refl _ _).alloc (Nat.le_refl _) (.cells #[.int .i64 (k : Int), .string ⟨([115, 112, 108, 105, 116]).toArray⟩, .int .i64 (a : Int)] 60)))
  have HT : Hid (zs.length = r.length) := kH (by simpa using hlen)
  have e1 : ¬ ((nx1 :: ny :: zs).length : Int) < 2 := by simp; omega
  have HGN : Hid (n0 ≤ g ∧ g < w.heap.size) := kH ⟨hg0, hg1⟩
  generalize hN : (nx1 :: ny :: zs).length = N at *
  have e2 : (1 : Int) < (N : Int) := by omega
  have e3 : (2 : Int) ≤ (N : Int) := by omega
  have HNL : Hid (N = r.length + 2) := kH (by have := HT.out; simp at hN; omega)
  have hsz : w.heap.size ≠ g := by omega
  obtain ⟨⟨d0, d1, d2, d3⟩, fz⟩ := anRow_cells (n := N) (by have := h.own; rw [hN] at this; exact this) 1 ny rfl
  rw [hop] at d0
  unfold bs at d0
  have f4 := fz 4
  have HP1 : Hid (RwA ((w.setCell ⟨g, 4, none⟩ (.string ⟨#[110, 97, 109, 101]⟩)).alloc (.cells #[.int .i64 (k : Int), .string ⟨([115, 112, 108, 105, 116]).toArray⟩, .int .i64 (a : Int)] 60)) n0 (x :: .mk oName y.tx y.pl y.kids :: r) (nx1 :: ⟨bs oName, ny.tx, ny.pl, ny.kp, ny.kn, ny.kc⟩ :: zs) (.slice (some ⟨g, 0, none⟩) N c)) := kH ((h.put1 hN.symm oName).below ((Below.refl _ _).alloc (Nat.le_refl _) _))
  have HB1 : Hid (Below n0 w ((w.setCell ⟨g, 4, none⟩ (.string ⟨#[110, 97, 109, 101]⟩)).alloc (.cells #[.int .i64 (k : Int), .string ⟨([115, 112, 108, 105, 116]).toArray⟩, .int .i64 (a : Int)] 60))) := kH (((Below.refl n0 w).setCell (p := ⟨g, 4, none⟩) hg0 (.string (bs oName))).alloc (by rw [World.size_setCell]; exact hb) _)
  have HMS : Hid ((nx1 :: (⟨bs oName, ny.tx, ny.pl, ny.kp, ny.kn, ny.kc⟩ : An) :: zs).length = N) := kH (by rw [← hN]; rfl)
  have HN6 := kH hn
  clear h hlen h2 hg0 hop d1 d2 d3 fz
  by_cases hv : y.op = oVar
  ·
   have hv2 : (y.op == [118, 97, 114]) = true := by rw [hv]; rfl
   have HY := kH hv
   clear hv
   by_cases h3 : N ≤ 3
   ·
    have e4 : (N : Int) ≤ 3 := by omega
    have HX : Hid (takenP ⟨k, [115, 112, 108, 105, 116], a⟩ (x :: y :: r) = some (x :: .mk oName y.tx y.pl y.kids :: r)) := kH (by
     unfold takenP; rw [if_neg (show ¬ (([115, 112, 108, 105, 116] : List UInt8) = bLength) from by decide)]; rw [if_neg (show ¬ (([115, 112, 108, 105, 116] : List UInt8) = bRand) from by decide)]; rw [if_neg (show ¬ (([115, 112, 108, 105, 116] : List UInt8) = bSprintf) from by decide)]; rw [if_neg (show ¬ (([115, 112, 108, 105, 116] : List UInt8) = oIndex ∨ ([115, 112, 108, 105, 116] : List UInt8) = bMatch) from by decide)]; rw [if_neg (show ¬ (([115, 112, 108, 105, 116] : List UInt8) = bSub ∨ ([115, 112, 108, 105, 116] : List UInt8) = bGsub) from by decide)]; rw [if_pos (show ([115, 112, 108, 105, 116] : List UInt8) = bSplit from by decide)]
     have := HNL.out
     simp only
     rw [if_pos ⟨HY.out, by omega⟩])
    clear h3
    go_enter Tryz.func129, Tryz.ntmps129
    go_wp2_with fail
    exact bodyPost_ret (v := .tuple #[.slice (some ⟨g, 0, none⟩) N c, .bool true]) (by simp [results, Tryz.results129, go_sem]) rfl ⟨_, nx1 :: ⟨bs oName, ny.tx, ny.pl, ny.kp, ny.kn, ny.kc⟩ :: zs, some ⟨g, 0, none⟩, c, true, by rw [HMS.out], by rw [HMS.out]; exact HP1.out, HB1.out, by rw [HMS.out]; have := HN6.out; omega, .inl ⟨rfl, HX.out⟩⟩
   ·
    have e4 : ¬ (N : Int) ≤ 3 := by omega
    have HX : Hid (takenP ⟨k, [115, 112, 108, 105, 116], a⟩ (x :: y :: r) = none) := kH (by
     unfold takenP; rw [if_neg (show ¬ (([115, 112, 108, 105, 116] : List UInt8) = bLength) from by decide)]; rw [if_neg (show ¬ (([115, 112, 108, 105, 116] : List UInt8) = bRand) from by decide)]; rw [if_neg (show ¬ (([115, 112, 108, 105, 116] : List UInt8) = bSprintf) from by decide)]; rw [if_neg (show ¬ (([115, 112, 108, 105, 116] : List UInt8) = oIndex ∨ ([115, 112, 108, 105, 116] : List UInt8) = bMatch) from by decide)]; rw [if_neg (show ¬ (([115, 112, 108, 105, 116] : List UInt8) = bSub ∨ ([115, 112, 108, 105, 116] : List UInt8) = bGsub) from by decide)]; rw [if_pos (show ([115, 112, 108, 105, 116] : List UInt8) = bSplit from by decide)]
     have := HNL.out
     simp only
     rw [if_neg (by rintro ⟨_, h⟩; omega)])
    clear h3
    go_enter Tryz.func129, Tryz.ntmps129
    go_wp2_with fail
    exact bodyPost_ret (v := .tuple #[.slice (some ⟨g, 0, none⟩) N c, .bool false]) (by simp [results, Tryz.results129, go_sem]) rfl ⟨_, nx1 :: ⟨bs oName, ny.tx, ny.pl, ny.kp, ny.kn, ny.kc⟩ :: zs, some ⟨g, 0, none⟩, c, false, by rw [HMS.out], by rw [HMS.out]; exact HP1.out, HB1.out, by rw [HMS.out]; have := HN6.out; omega, .inr ⟨rfl, HX.out⟩⟩
  ·
   have hv2 : (y.op == [118, 97, 114]) = false := by rw [beq_eq_false_iff_ne]; exact hv
   have HX : Hid (takenP ⟨k, [115, 112, 108, 105, 116], a⟩ (x :: y :: r) = none) := kH (by
    unfold takenP; rw [if_neg (show ¬ (([115, 112, 108, 105, 116] : List UInt8) = bLength) from by decide)]; rw [if_neg (show ¬ (([115, 112, 108, 105, 116] : List UInt8) = bRand) from by decide)]; rw [if_neg (show ¬ (([115, 112, 108, 105, 116] : List UInt8) = bSprintf) from by decide)]; rw [if_neg (show ¬ (([115, 112, 108, 105, 116] : List UInt8) = oIndex ∨ ([115, 112, 108, 105, 116] : List UInt8) = bMatch) from by decide)]; rw [if_neg (show ¬ (([115, 112, 108, 105, 116] : List UInt8) = bSub ∨ ([115, 112, 108, 105, 116] : List UInt8) = bGsub) from by decide)]; rw [if_pos (show ([115, 112, 108, 105, 116] : List UInt8) = bSplit from by decide)]
    simp only
    rw [if_neg (by rintro ⟨h, _⟩; exact hv h)])
   clear hv
   go_enter Tryz.func129, Tryz.ntmps129
   go_wp2_with fail
   exact bodyPost_ret (v := .tuple #[.slice none 0 0, .bool false]) (by simp [results, Tryz.results129, go_sem]) rfl ⟨[], [], none, 0, false, rfl, RwA.nil _ _, HB.out, by simp, .inr ⟨rfl, HX.out⟩⟩
end Go.Proofs.YtmbfdkiejneheaaGreatDoor
