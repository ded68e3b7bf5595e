/-
  THE WALK of scribelaw07.FormatPlaces: it returns true and writes to nothing that was there.
-/
import Derived.Test.YtciicmmfplnekaaGreatDoorFPlainW
namespace Go.Proofs.YtciicmmfplnekaaGreatDoor
open Go.RowKit

theorem ce_alloc (w : World) (l : List Ce) (arr : Array Value) (h : arr.toList = ceRow l) : CeAt (w.alloc (.cells arr 36)) (some ⟨w.heap.size, 0, none⟩) l := by
  intro i hi
  have e : ∀ j, (⟨w.heap.size, 0, none⟩ : Addr).add j = ⟨w.heap.size, j, none⟩ := fun j => by rw [Lib.add_plain, Nat.zero_add]
  have g : ∀ j, (w.alloc (.cells arr 36)).cell? ⟨w.heap.size, j, none⟩ = (ceRow l)[j]? := fun j => by
    rw [World.cell?_alloc_new, ← h]; simp
  refine ⟨_, rfl, by simp, ?_, ?_, ?_⟩
  · rw [e, g, show i * 3 = i * 3 + 0 from rfl, ceRow_get l i 0 hi (by omega)]; rfl
  · rw [e, g, ceRow_get l i 1 hi (by omega)]; rfl
  · rw [e, g, ceRow_get l i 2 hi (by omega)]; rfl
theorem goodL_one (d : Ce) : goodL [d] 1 = if goodB d.cut then [d.cut] else [] := by
  unfold goodL
  simp [List.filter_cons]
theorem conv_u8 (c : UInt8) (W : World) (T : TypeId) : (convert 40 9 (.slice (some ⟨W.heap.size, 0, none⟩) 1 1)).run Tryz.prog (W.alloc (.cells #[.int .u8 (c.toNat : Int)] T)) = .ok (.string ⟨#[c]⟩) (W.alloc (.cells #[.int .u8 (c.toNat : Int)] T)) := by
  have h := run_convert_bytes_back (P := Tryz.prog) (W.alloc (.cells #[.int .u8 (c.toNat : Int)] T)) 40 9 5 ⟨W.heap.size, 0, none⟩ 1 [c] Tryz.underlying40 Tryz.underlying5 Tryz.underlying9 (fun j hj => by
    match j, hj with
    | 0, _ => simp [Addr.add, go_sem])
  exact h
/-- Print, of one value. -/
theorem gprint1 (F R : ByteArray) (d : Ce) (hF : F.size ≤ 2000) (hd : OkN d.n ∧ d.s.size ≤ 100) (e0 : Int) (h : printL F.data.toList [] [d.va] = (R.data.toList, e0)) (W : World) (q : Option Addr) (c : Nat) (hA : CeAt W q [d]) (hc : 1 ≤ c) (G : Gf W) :
    Calls Tryz.prog 11 #[.string F, .slice q 1 c] W fun e w' => e = .returned (.tuple #[.string R, .int .i64 e0]) ∧ Below W.heap.size W w' :=
  (fprint_any F R q c [d] W hF (by show 1 ≤ 1000; omega) hc hA (fun x hx => by rw [List.mem_singleton.1 hx]; exact ⟨hd.1, by omega⟩) G (by show _ = (printL F.data.toList [] [d.va]).1; rw [h])).mono fun e w' ⟨h1, h2⟩ => ⟨by rw [show [d].map Ce.va = [d.va] from rfl, h] at h1; exact h1, h2⟩
def BoolPost (w : World) (e : Ending) (w' : World) : Prop := e = .returned (.bool true) ∧ Below w.heap.size w w'
set_option maxRecDepth 100000 in
set_option maxHeartbeats 4000000 in
theorem places_law (k nn : Int) (s : ByteArray) (n : Int) (hs : s.size ≤ maxLen) (hn : -9223372036854775808 ≤ n ∧ n ≤ 9223372036854775807) (w : World) (G : Gf w) :
    Calls Tryz.prog 7 #[cv k nn s, .int .i64 n] w fun e w' => e = .returned (.bool true) ∧ Below w.heap.size w w' := by
  have CA := Lib.hid fun W G => fawake_any W G
  have HG := Lib.hid G
  have CG : Hid (∀ W p, CeAt W p [⟨k, nn, s⟩] → Calls Tryz.prog 10 #[.slice p 1 1, .int .i64 1] W (GdPost (goodL [⟨k, nn, s⟩] 1) W)) :=
    Lib.hid fun W p hA => goodrow_any p 1 [⟨k, nn, s⟩] 1 W hA (by show 1 ≤ maxLen; decide) (by omega) (fun t ht => by rw [List.mem_singleton.1 ht]; exact hs)
  have HN : ∀ W : World, Below w.heap.size w W → Below w.heap.size w ((W.alloc (.cells #[.int .i64 k, .int .i64 nn, .string s] 36)).alloc (.cells #[.int .i64 k, .int .i64 nn, .string s] 36)) := fun W h => (h.alloc h.size _).alloc (by simp; have := h.size; omega) _
  have HCE := Lib.hid (ce_alloc (w.alloc (.cells #[.int .i64 k, .int .i64 nn, .string s] 36)) [⟨k, nn, s⟩] #[.int .i64 k, .int .i64 nn, .string s] rfl)
  rw [World.size_alloc] at HCE
  have HB0 := Lib.hid (HN w (Below.refl _ _))
  rw [goodL_one] at CG
  clear HN G hs
  unfold cv
  by_cases hg : goodB (Ce.cut ⟨k, nn, s⟩) = true
  · rw [if_pos hg] at CG
    have hgc := (goodB_iff _).1 hg
    have hgs : (Ce.cut ⟨k, nn, s⟩).s.size ≤ 100 := cutB_size s 100
    generalize Ce.cut ⟨k, nn, s⟩ = d at *
    by_cases hr : 1 ≤ n ∧ n ≤ 6
    · obtain ⟨h1, h6⟩ := hr
      obtain ⟨m, rfl⟩ : ∃ m : Nat, n = m := ⟨n.toNat, by omega⟩
      have hm1 : 1 ≤ m := by omega
      have hm6 : m ≤ 6 := by omega
      obtain ⟨c8, hc8⟩ : ∃ c8, UInt8.ofNat (48 + m) = c8 := ⟨_, rfl⟩
      have hc8n : c8.toNat = 48 + m := by rw [← hc8]; exact UInt8.toNat_ofNat_of_lt' (by show 48 + m < 256; omega)
      have hw8 : IntKind.u8.wrap (48 + (m : Int)) = (c8.toNat : Int) := by
        rw [hc8n]; have h : IntKind.u8.wrap (48 + (m : Int)) = (48 + (m : Int)) % 256 := by simp [IntKind.wrap, IntKind.signed, IntKind.bits]
        rw [h]; omega
      have hsm := va_small (good_okN hgc) hgs
      obtain ⟨S, hS, hSs⟩ := has_ba (oneL (placeC m) d.va)
      obtain ⟨T, hT, hTs⟩ := has_ba (oneL (plainC 102) d.va)
      have hpl := place_head m d.va hm1 hm6
      have hls := oneL_len (placeC m) d.va (by show 0 ≤ 1000; omega) (by show m ≤ 1000; omega) hsm
      have P1 : Hid (∀ W q c, CeAt W q [d] → 1 ≤ c → Gf W → Calls Tryz.prog 11 #[.string (⟨#[37, 46]⟩ ++ ⟨#[c8]⟩ ++ ⟨#[102]⟩), .slice q 1 c] W fun e w' => e = .returned (.tuple #[.string S, .int .i64 0]) ∧ Below W.heap.size W w') :=
        Lib.hid fun W q c hA hc G => gprint1 _ S d (by rw [ByteArray.size_append, ByteArray.size_append]; show 2 + 1 + 1 ≤ 2000; omega) ⟨good_okN hgc, hgs⟩ 0 (by
          rw [show (⟨#[37, 46]⟩ ++ ⟨#[c8]⟩ ++ ⟨#[102]⟩ : ByteArray).data.toList = [37, 46, c8, 102] from by simp, ← hc8, place_print m d.va hm1 hm6 hsm, hS]) W q c hA hc G
      have P2 : Hid (∀ W q c, CeAt W q [d] → 1 ≤ c → Gf W → Calls Tryz.prog 11 #[.string ⟨#[37, 102]⟩, .slice q 1 c] W fun e w' => e = .returned (.tuple #[.string T, .int .i64 0]) ∧ Below W.heap.size W w') :=
        Lib.hid fun W q c hA hc G => gprint1 _ T d (by decide) ⟨good_okN hgc, hgs⟩ 0 (by
          rw [show (⟨#[37, 102]⟩ : ByteArray).data.toList = [37, 102] from rfl, plain_print 102 d.va (by decide) hsm, hT]) W q c hA hc G
      have hTS : (T.size : Int) = (S.size : Int) + 6 - (m : Int) := by rw [hTs, hSs, hpl.1]; omega
      have hx : T.extract 0 S.size = S := WideShapes.bytes_inj (by rw [ext0, hT, hS, hSs]; exact hpl.2)
      have hle : (S.size : Int) ≤ (T.size : Int) := by omega
      have hSi : (S.size : Int) ≤ 1022 := by omega
      have hTi : (T.size : Int) ≤ 1028 := by omega
      have HCV := fun W => conv_u8 c8 W 5
      have z1 : (⟨#[37, 46]⟩ : ByteArray).size = 2 := rfl
      have z2 : (⟨#[c8]⟩ : ByteArray).size = 1 := rfl
      have z3 : (⟨#[102]⟩ : ByteArray).size = 1 := rfl
      have htb : ((T.size : Int) == (S.size : Int) + 6 - (m : Int)) = true := by rw [hTS]; simp
      clear hc8 hc8n hsm hS hSs hT hTs hpl hls hg hgc hn hm1 hm6 hTS
      go_enter Tryz.func7, Tryz.ntmps7
      go_wp2_with fail
      (with_reducible refine (CG.out _ _ HCE.out).mono ?_)
      rintro e w1 ⟨g, c, rfl, hCe, hc, hb1⟩
      have HB1 := Lib.hid (HB0.out.trans (hb1.mono HB0.out.size))
      have HC := Lib.hid hCe
      have HL := Lib.hid (show 1 ≤ c from hc)
      clear hb1 hCe hc HCE HB0
      go_wp2_with fail
      (with_reducible refine (P1.out _ _ _ (HC.out.below ((Below.refl _ _).alloc (Nat.le_refl _) _) (Nat.le_refl _)) HL.out (HG.out.next (HB1.out.alloc HB1.out.size _))).mono ?_)
      rintro e w2 ⟨rfl, hb2⟩
      have HB2 := Lib.hid ((HB1.out.alloc HB1.out.size _).trans (hb2.mono (by simp; have := HB1.out.size; omega)))
      have HC2 := Lib.hid (HC.out.below (below_new hb2) (Nat.le_refl _))
      clear hb2 HB1 HC
      go_wp2_with fail
      (with_reducible refine (P2.out _ _ _ HC2.out HL.out (HG.out.next HB2.out)).mono ?_)
      rintro e w3 ⟨rfl, hb3⟩
      have HB3 := Lib.hid (HB2.out.trans (hb3.mono HB2.out.size))
      clear hb3 HB2 HC2
      go_wp2_with fail
      (with_reducible refine (CA.out _ (HG.out.next HB3.out)).mono ?_)
      rintro e w4 ⟨rfl, hb4⟩
      have HB4 := Lib.hid (HB3.out.trans (hb4.mono HB3.out.size))
      clear hb4 HB3
      go_wp2_with fail
      go_ret
      exact ⟨rfl, HB4.out⟩
    · have hn2 : n < 1 ∨ 6 < n := by omega
      clear hr hg hgc hgs
      rcases hn2 with hn2 | hn2
      · go_enter Tryz.func7, Tryz.ntmps7
        go_wp2_with fail
        (with_reducible refine (CG.out _ _ HCE.out).mono ?_)
        rintro e w1 ⟨g, c, rfl, hCe, hc, hb1⟩
        have HB1 := Lib.hid (HB0.out.trans (hb1.mono HB0.out.size))
        clear hb1 hCe hc HCE HB0
        go_wp2_with fail
        (with_reducible refine (CA.out _ (HG.out.next HB1.out)).mono ?_)
        rintro e w4 ⟨rfl, hb4⟩
        have HB4 := Lib.hid (HB1.out.trans (hb4.mono HB1.out.size))
        clear hb4 HB1
        go_wp2_with fail
        go_ret
        exact ⟨rfl, HB4.out⟩
      · have hn3 : ¬ n < 1 := by omega
        go_enter Tryz.func7, Tryz.ntmps7
        go_wp2_with fail
        (with_reducible refine (CG.out _ _ HCE.out).mono ?_)
        rintro e w1 ⟨g, c, rfl, hCe, hc, hb1⟩
        have HB1 := Lib.hid (HB0.out.trans (hb1.mono HB0.out.size))
        clear hb1 hCe hc HCE HB0
        go_wp2_with fail
        (with_reducible refine (CA.out _ (HG.out.next HB1.out)).mono ?_)
        rintro e w4 ⟨rfl, hb4⟩
        have HB4 := Lib.hid (HB1.out.trans (hb4.mono HB1.out.size))
        clear hb4 HB1
        go_wp2_with fail
        go_ret
        exact ⟨rfl, HB4.out⟩
  · rw [if_neg hg] at CG
    clear hg
    go_enter Tryz.func7, Tryz.ntmps7
    go_wp2_with fail
    (with_reducible refine (CG.out _ _ HCE.out).mono ?_)
    rintro e w1 ⟨g, c, rfl, hCe, hc, hb1⟩
    have HB1 := Lib.hid (HB0.out.trans (hb1.mono HB0.out.size))
    clear hb1 hCe hc HCE HB0
    go_wp2_with fail
    (with_reducible refine (CA.out _ (HG.out.next HB1.out)).mono ?_)
    rintro e w4 ⟨rfl, hb4⟩
    have HB4 := Lib.hid (HB1.out.trans (hb4.mono HB1.out.size))
    clear hb4 HB1
    go_wp2_with fail
    go_ret
    exact ⟨rfl, HB4.out⟩
end Go.Proofs.YtciicmmfplnekaaGreatDoor
