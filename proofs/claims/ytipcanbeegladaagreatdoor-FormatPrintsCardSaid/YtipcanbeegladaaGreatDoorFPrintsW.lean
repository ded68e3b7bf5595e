/-
  THE WALK of scribelaw07.FormatPrints: it returns true and writes to nothing that was there.
-/
import Derived.Test.YtipcanbeegladaaGreatDoorRef7G
import Derived.Test.YtipcanbeegladaaGreatDoorFmtW8
namespace Go.Proofs.YtipcanbeegladaaGreatDoor
open Go.RowKit

theorem rtold_one (k n : Int) (s : ByteArray) (w : World) :
    Calls Tryz.prog 16 #[.agg #[.int .i64 k, .int .i64 n, .string s]] w fun e w' => e = .returned (.agg #[.int .i64 k, .int .i64 n, .string s]) ∧ Below w.heap.size w w' := by
  go_enter Tryz.func16, Tryz.ntmps16
  go_wp2_with fail
  refine bodyPost_ret (v := .agg #[.int .i64 k, .int .i64 n, .string s]) ?_ rfl ⟨rfl, ?_⟩
  · simp [results, Tryz.results16, go_sem]
  · exact ((Below.refl _ _).alloc (Nat.le_refl _) _).alloc (by simp) _
theorem Tryz.infoRc : (Tryz.prog.info? 50).map (fun i => (i.zero, i.size, i.bytes)) = some (some (.agg #[.int .i64 0, .int .i64 0, .string ⟨#[]⟩]), 3, 32) := by kernel_rfl
theorem CeAt.ownR {w : World} {base g c : Nat} {e : TypeId} {l : List Ce} (h : w.ownsRow base e 3 (.slice (some ⟨g, 0, none⟩) l.length c) l.length (ceRow l)) : CeAt w (some ⟨g, 0, none⟩) l := by
  intro i hi
  have e : ∀ j, (⟨g, 0, none⟩ : Addr).add j = ⟨g, j, none⟩ := fun j => by rw [Lib.add_plain, Nat.zero_add]
  refine ⟨_, rfl, ?_, ?_, ?_, ?_⟩
  · rcases h.2 with ⟨h1, _⟩ | ⟨g', cap, cur, h1, hB, hgg, _⟩
    · cases h1
    · injection h1 with h1 _ _
      injection h1 with h1
      injection h1 with h1
      subst h1
      exact (Array.getElem?_eq_some_iff.1 hgg).1
  · rw [e, h.cellAt (i * 3) (by omega), show i * 3 = i * 3 + 0 from rfl, ceRow_get l i 0 hi (by omega)]; rfl
  · rw [e, h.cellAt (i * 3 + 1) (by omega), ceRow_get l i 1 hi (by omega)]; rfl
  · rw [e, h.cellAt (i * 3 + 2) (by omega), ceRow_get l i 2 hi (by omega)]; rfl
theorem ce_newR {b : Nat} {T : TypeId} (w : World) (t : Ce) (hb : w.heap.size = b) : ∀ (j : Nat) (u : Value), t.vals[j]? = some u → (w.alloc (.cells #[.int .i64 t.k, .int .i64 t.n, .string t.s] T)).cell? (Addr.add ⟨b, 0, none⟩ j) = some u := by
  subst hb
  intro j u hj
  match j, hj with
  | 0, hj => simp [Ce.vals] at hj; subst hj; simp [Addr.add, go_sem]
  | 1, hj => simp [Ce.vals] at hj; subst hj; simp [Addr.add, go_sem]
  | 2, hj => simp [Ce.vals] at hj; subst hj; simp [Addr.add, go_sem]
  | n + 3, hj => simp [Ce.vals] at hj
structure TlR (l : List Ce) (w : World) (k : Nat) (v : Value) (wr : World) : Prop where
  row : wr.ownsRow w.heap.size 50 3 v k (ceRow (l.take k))
  below : Below w.heap.size w wr
set_option maxRecDepth 100000 in
set_option maxHeartbeats 2000000 in
theorem rtold_any (p : Option Addr) (cap : Nat) (l : List Ce) (w : World) (hA : CeAt w p l) (hl : l.length ≤ 1000) :
    Calls Tryz.prog 8 #[.slice p l.length cap] w (GdPost l w) := by
  obtain ⟨i0, hi, hz0, hz1, hz2⟩ := info_parts Tryz.infoRc
  have HA := Lib.hid hA
  clear hA
  go_enter Tryz.func8, Tryz.ntmps8
  go_wp2_with fail
  go_loopw [3, 9] (fun v iv wr => ∃ (k g c : Nat), k ≤ l.length ∧ iv = .int .i64 k ∧ v = .slice (some ⟨g, 0, none⟩) k c ∧ Hid (TlR l w k (.slice (some ⟨g, 0, none⟩) k c) wr)) (fun _ iv _ => l.length - (intOf iv).toNat)
  case atStart => exact ⟨0, w.heap.size, 0, by omega, rfl, rfl, Lib.hid ⟨World.ownsRow_made w #[] 0 (Nat.le_refl _) (by decide) rfl, (Below.refl _ _).alloc (Nat.le_refl _) _⟩⟩
  case round =>
    obtain ⟨k, g, c, hk, rfl, rfl, HO⟩ := hrel
    by_cases h1 : k < l.length
    · obtain ⟨a, rfl, hab, k0, k1, k2⟩ := HA.out k h1
      have c0 := (HO.out.below.cell (p := a.add (k * 3)) (add_lt hab _)).trans k0
      have c1 := (HO.out.below.cell (p := ⟨(a.add (k * 3)).block, (a.add (k * 3)).off + 1, none⟩) (add_lt hab _)).trans k1
      have c2 := (HO.out.below.cell (p := ⟨(a.add (k * 3)).block, (a.add (k * 3)).off + 2, none⟩) (add_lt hab _)).trans k2
      have HS : Hid (ceRow (l.take (k + 1)) = ceRow (l.take k) ++ l[k].vals) := Lib.hid (by rw [List.take_succ_eq_append_getElem h1, ceRow_snoc])
      obtain ⟨d, hd⟩ : ∃ d, l[k] = d := ⟨_, rfl⟩
      rw [hd] at c0 c1 c2 HS
      have CT := Lib.hid (fun w => rtold_one d.k d.n d.s w)
      have hki : (k : Int) < (l.length : Int) := by omega
      clear k0 k1 k2 hd hab
      go_wp2_with fail
      refine (CT.out _).mono ?_
      rintro e w2 ⟨rfl, hb2⟩
      have hb2' := below_new hb2
      have HO2 : Hid (TlR l w k (.slice (some ⟨g, 0, none⟩) k c) w2) := Lib.hid ⟨row_next HO.out.row hb2', HO.out.below.trans (hb2'.mono HO.out.below.size)⟩
      clear hb2 hb2' HO c0 c1 c2
      go_wp2_with (at_builtin; refine wpList_append_own _ rfl (.tmp 13) (.tmp 16) 30 rfl w.heap.size 50 i0 (.agg #[.int .i64 0, .int .i64 0, .string ⟨#[]⟩]) 3 32 Tryz.underlying30 hi hz0 hz1 hz2 rfl (by decide) (.slice (some ⟨g, 0, none⟩) k c) k (ceRow (l.take k)) rfl (HO2.out.row.alloc _) ⟨w2.heap.size, 0, none⟩ 1 1 d.vals (by simp [go_sem]) rfl ?c1 ?c2 ?c3 ?c4 ?c5 ?_)
      case c1 => exact ce_newR _ d (by simp)
      case c2 => simp [Ce.vals, Value.oneCell']
      case c3 => unfold maxLen; omega
      case c4 => omega
      case c5 => simp; have := HO2.out.below.size; omega
      intro v' w3 hown3 hgrow _
      obtain ⟨g', cap', rfl⟩ := own_succ hown3
      have HN : Hid (TlR l w (k + 1) (.slice (some ⟨g', 0, none⟩) (k + 1) cap') w3) := Lib.hid ⟨by
        rw [HS.out]; exact hown3, (HO2.out.below.alloc HO2.out.below.size _).grown hgrow (by simp; have := HO2.out.below.size; omega) (fun j hj => (HO2.out.row.lt j hj).1)⟩
      clear hown3 hgrow HO2 HS
      go_wp2_with fail
      go_roundw
      case rel => exact ⟨k + 1, g', cap', h1, by go_num, rfl, HN⟩
      case measure => simp [intOf]; omega
    · obtain rfl : k = l.length := by omega
      have HE : Hid (GdPost l w (.returned (.slice (some ⟨g, 0, none⟩) l.length c)) wr) := Lib.hid (by
        have hrow := HO.out.row
        rw [List.take_length] at hrow
        exact ⟨g, c, rfl, CeAt.ownR hrow, owns_cap hrow, HO.out.below⟩)
      clear HO
      go_wp2_with fail
      go_ret
      exact HE.out
set_option maxRecDepth 100000 in
set_option maxHeartbeats 2000000 in
theorem prints_walk (F0 : ByteArray) (p : Option Addr) (cap : Nat) (l : List Ce) (w : World) (hF0 : F0.size ≤ maxLen) (hA : CeAt w p l) (hl : l.length ≤ maxLen) (ht : ∀ t ∈ l, t.s.size ≤ maxLen) (G : Gf w) :
    Calls Tryz.prog 3 #[.string F0, .slice p l.length cap] w fun e w' => e = .returned (.bool true) ∧ Below w.heap.size w w' := by
  have CA := Lib.hid fun W G => fawake_any W G
  have CG : Hid (∀ W, CeAt W p l → Calls Tryz.prog 5 #[.slice p l.length cap, .int .i64 12] W (GdPost (goodL l 12) W)) := Lib.hid fun W hA => goodrow_any p cap l 12 W hA hl (by omega) ht
  have HG := Lib.hid G
  have hgl := goodL_len l 12
  have HFit := Lib.hid (goodL_fit (l := l) (k := 12))
  have CC : Hid (∀ W, Calls Tryz.prog 4 #[.string F0, .int .i64 200] W fun e w' => e = .returned (.string (cutB F0 200)) ∧ W = w') := Lib.hid fun W => (cut_any F0 200 W hF0 (by omega)).mono fun e w' h => h
  have hcs := cutB_size F0 200
  generalize cutB F0 200 = F at *
  obtain ⟨R, hR⟩ : ∃ R : ByteArray, R.data.toList = (printL F.data.toList [] ((goodL l 12).map Ce.va)).1 := by
    obtain ⟨B, hB, -⟩ := has_ba (printL F.data.toList [] ((goodL l 12).map Ce.va)).1
    exact ⟨B, hB⟩
  have HA := Lib.hid hA
  have CP : Hid (∀ W q c, CeAt W q (goodL l 12) → (goodL l 12).length ≤ c → Gf W → Calls Tryz.prog 6 #[.string F, .slice q (goodL l 12).length c] W (PrPost F.data.toList ((goodL l 12).map Ce.va) R W)) :=
    Lib.hid fun W q c hA hc G => fprint_any F R q c (goodL l 12) W (by omega) (by omega) hc hA HFit.out G hR
  have CR : Hid (∀ W q c, CeAt W q (goodL l 12) → Calls Tryz.prog 7 #[.string F, .slice q (goodL l 12).length c] W (PrPost F.data.toList ((goodL l 12).map Ce.va) R W)) :=
    Lib.hid fun W q c hA => rfprint_any F R q c (goodL l 12) W (by omega) (by omega) hA HFit.out hR
  have CT : Hid (∀ W q c, CeAt W q (goodL l 12) → Calls Tryz.prog 8 #[.slice q (goodL l 12).length c] W (GdPost (goodL l 12) W)) := Lib.hid fun W q c hA => rtold_any q c (goodL l 12) W hA (by omega)
  clear G hA ht hl hR hgl HFit hcs
  unfold PrPost at CP CR
  generalize (printL F.data.toList [] ((goodL l 12).map Ce.va)).2 = E at *
  generalize goodL l 12 = gl at *
  go_enter Tryz.func3, Tryz.ntmps3
  go_wp2_with fail
  refine (CC.out _).mono ?_
  rintro e w' ⟨rfl, rfl⟩
  go_wp2_with fail
  refine (CG.out _ HA.out).mono ?_
  rintro e w1 ⟨g, c, rfl, hCe, hc, hb1⟩
  have HB1 := Lib.hid hb1
  have HC := Lib.hid hCe
  have HLC := Lib.hid hc
  clear hb1 hCe hc CG HA
  go_wp2_with fail
  refine (CP.out _ _ _ HC.out HLC.out (HG.out.next HB1.out)).mono ?_
  rintro e w2 ⟨rfl, hb2⟩
  have HC2 := Lib.hid (show CeAt w2 (some ⟨g, 0, none⟩) gl from HC.out.below hb2 (Nat.le_refl _))
  have HB2 := Lib.hid (HB1.out.trans (hb2.mono HB1.out.size))
  clear hb2 HC HB1 HLC
  go_wp2_with fail
  refine (CT.out _ _ _ HC2.out).mono ?_
  rintro e w3 ⟨g3, c3, rfl, hCe3, _hc3, hb3⟩
  have HC3 := Lib.hid hCe3
  have HB3 := Lib.hid (HB2.out.trans (hb3.mono HB2.out.size))
  clear hb3 hCe3 HC2 HB2
  go_wp2_with fail
  refine (CR.out _ _ _ HC3.out).mono ?_
  rintro e w4 ⟨rfl, hb4⟩
  have HB4 := Lib.hid (HB3.out.trans (hb4.mono HB3.out.size))
  clear hb4 HC3 HB3
  go_wp2_with fail
  refine (CA.out _ (HG.out.next HB4.out)).mono ?_
  rintro e w5 ⟨rfl, hb5⟩
  have HB5 := Lib.hid (HB4.out.trans (hb5.mono HB4.out.size))
  clear hb5 HB4
  go_wp2_with fail
  go_ret
  exact ⟨rfl, HB5.out⟩
end Go.Proofs.YtipcanbeegladaaGreatDoor
