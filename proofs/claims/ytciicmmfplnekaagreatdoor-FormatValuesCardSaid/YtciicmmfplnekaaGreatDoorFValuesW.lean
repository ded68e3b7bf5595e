/-
  THE WALK of scribelaw07.FormatValues: it returns true and writes to nothing that was there.
-/
import Derived.Test.YtciicmmfplnekaaGreatDoorFPlainW
namespace Go.Proofs.YtciicmmfplnekaaGreatDoor
open Go.RowKit

theorem fmtV_len : ∀ n, (fmtV n).length = 4 * n
  | 0 => rfl
  | n + 1 => by rw [fmtV, List.length_append, fmtV_len n]; simp [pieceF]; omega
set_option maxRecDepth 100000 in
set_option maxHeartbeats 2000000 in
theorem values_walk (p : Option Addr) (cap : Nat) (l : List Ce) (n : Int) (hn1 : -9223372036854775808 ≤ n ∧ n ≤ 9223372036854775807) (w : World) (hA : CeAt w p l) (hl : l.length ≤ maxLen) (ht : ∀ t ∈ l, t.s.size ≤ maxLen) (G : Gf w) :
    Calls Tryz.prog 8 #[.slice p l.length cap, .int .i64 n] w fun e w' => e = .returned (.bool true) ∧ Below w.heap.size w w' := by
  have CA := Lib.hid fun W G => fawake_any W G
  have CG : Hid (Calls Tryz.prog 10 #[.slice p l.length cap, .int .i64 8] w (GdPost (goodL l 8) w)) := Lib.hid (goodrow_any p cap l 8 w hA hl (by omega) ht)
  have HG := Lib.hid G
  have hgl := goodL_len l 8
  have HM := Lib.hid (fun c (h : c ∈ goodL l 8) => goodL_mem h)
  clear G hA ht hl
  by_cases h08 : 0 ≤ n ∧ n ≤ 8
  · obtain ⟨h0, h8⟩ := h08
    obtain ⟨m, rfl⟩ : ∃ m : Nat, n = m := ⟨n.toNat, by omega⟩
    have hm8 : m ≤ 8 := by omega
    clear hn1 h0
    obtain ⟨F, hF, hFs⟩ := has_ba (fmtV m)
    obtain ⟨R, hR, hRs⟩ := has_ba (wantV ((goodL l 8).map Ce.va) m)
    have hwl := wantV_len (goodL_small (l := l) (k := 8)) m
    have hfl := fmtV_len m
    have CP : Hid (∀ W q c, CeAt W q (goodL l 8) → (goodL l 8).length ≤ c → Gf W → Calls Tryz.prog 11 #[.string F, .slice q (goodL l 8).length c] W fun e w' => e = .returned (.tuple #[.string R, .int .i64 0]) ∧ Below W.heap.size W w') :=
      Lib.hid fun W q c hA hc G => gprint F R l 8 (by omega) (by omega) 0 (by rw [hF, hR]; exact values_ok _ goodL_small m (by omega)) W q c hA hc G
    have HF := Lib.hid (And.intro hF hR)
    have HSM := Lib.hid (goodL_small (l := l) (k := 8))
    clear hF hFs hR hRs hwl hfl
    generalize goodL l 8 = gl at *
    go_enter Tryz.func8, Tryz.ntmps8
    go_wp2_with fail
    (with_reducible refine CG.out.mono ?_)
    rintro e w1 ⟨g, c, rfl, hCe, hc, hb1⟩
    have HB1 := Lib.hid hb1
    have HC := Lib.hid hCe
    have HLC := Lib.hid hc
    clear hb1 hCe hc CG
    go_wp2_with fail
    go_loopw [5, 6, 7] (fun fv vv iv wr => ∃ (k : Nat) (A B : ByteArray), k ≤ m ∧ A.size ≤ 4 * k ∧ B.size ≤ 102 * k ∧ iv = .int .i64 k ∧ fv = .string A ∧ vv = .string B ∧ Hid (A.data.toList = fmtV k ∧ B.data.toList = wantV (gl.map Ce.va) k) ∧ Hid (Below w1.heap.size w1 wr)) (fun _ _ iv _ => m - (intOf iv).toNat)
    case atStart => exact ⟨0, ⟨#[]⟩, ⟨#[]⟩, by omega, by decide, by decide, rfl, rfl, rfl, Lib.hid ⟨rfl, rfl⟩, Lib.hid (Below.refl _ _)⟩
    case round =>
      obtain ⟨k, A, B, hk, hAs, hBs, rfl, rfl, rfl, HE, HB⟩ := hrel
      by_cases hlt : k < m
      · by_cases hgk : k < gl.length
        · obtain ⟨a, ha, hab, k0, k1, k2⟩ := HC.out k hgk
          obtain rfl := Option.some.inj ha
          have c0 := (HB.out.cell (p := (⟨g, 0, none⟩ : Addr).add (k * 3)) (add_lt hab _)).trans k0
          have c1 := (HB.out.cell (p := ⟨((⟨g, 0, none⟩ : Addr).add (k * 3)).block, ((⟨g, 0, none⟩ : Addr).add (k * 3)).off + 1, none⟩) (add_lt hab _)).trans k1
          have c2 := (HB.out.cell (p := ⟨((⟨g, 0, none⟩ : Addr).add (k * 3)).block, ((⟨g, 0, none⟩ : Addr).add (k * 3)).off + 2, none⟩) (add_lt hab _)).trans k2
          rw [Lib.add_plain, Nat.zero_add] at c0 c1 c2
          have hmem := HM.out _ (List.getElem_mem hgk)
          have hok := good_okN hmem.1
          have hsm := (va_small hok hmem.2).1
          obtain ⟨X, hX⟩ : ∃ X, strC gl[k].k gl[k].n gl[k].s = X := ⟨_, rfl⟩
          have hXs : X.size ≤ 100 := by rw [← hX, ← ba_sz]; exact hsm
          have CS := Lib.hid fun W G => cstr_any gl[k].k gl[k].n gl[k].s W (fun _ => hok) (by rw [hX]; omega) G
          rw [hX] at CS
          have HN : Hid ((A ++ ⟨#[60, 37, 115, 62]⟩).data.toList = fmtV (k + 1) ∧ (B ++ (⟨#[60]⟩ ++ X ++ ⟨#[62]⟩)).data.toList = wantV (gl.map Ce.va) (k + 1)) := Lib.hid (by
            refine ⟨?_, ?_⟩
            · rw [fmtV, ← HE.out.1]; simp [pieceF]
            · rw [wantV, ← HE.out.2]
              have : ((gl.map Ce.va).getD k noneV).s = X.data.toList := by
                rw [List.getD_eq_getElem?_getD, List.getElem?_map, List.getElem?_eq_getElem hgk]
                show (strC gl[k].k gl[k].n gl[k].s).data.toList = _
                rw [hX]
              unfold pieceV
              rw [this]; simp)
          have hgi : decide (k < gl.length) = true := decide_eq_true hgk
          have h4 : (⟨#[60, 37, 115, 62]⟩ : ByteArray).size = 4 := rfl
          have h1 : (⟨#[60]⟩ : ByteArray).size = 1 := rfl
          have h2 : (⟨#[62]⟩ : ByteArray).size = 1 := rfl
          have hAi : (A.size : Int) ≤ 40 := by omega
          have hBi : (B.size : Int) ≤ 1000 := by omega
          have hXi : (X.size : Int) ≤ 100 := by omega
          unfold cv at CS
          clear k0 k1 k2 ha hX hsm hok hmem
          generalize gl[k].k = x0 at *
          generalize gl[k].n = x1 at *
          generalize gl[k].s = x2 at *
          go_wp2_with fail
          refine (CS.out _ ((HG.out.next HB1.out).next HB.out).gl).mono ?_
          rintro e w2 ⟨rfl, hb2⟩
          have HB2 := Lib.hid (HB.out.trans (hb2.mono HB.out.size))
          clear hb2 HB
          go_wp2_with fail
          go_roundw
          case rel => exact ⟨k + 1, A ++ ⟨#[60, 37, 115, 62]⟩, B ++ (⟨#[60]⟩ ++ X ++ ⟨#[62]⟩), by omega, by rw [ByteArray.size_append]; omega, by rw [ByteArray.size_append, ByteArray.size_append, ByteArray.size_append]; omega, by go_num, rfl, rfl, HN, HB2⟩
          case measure => simp [intOf]; omega
        · have HN : Hid ((A ++ ⟨#[60, 37, 115, 62]⟩).data.toList = fmtV (k + 1) ∧ (B ++ ⟨#[60, 62]⟩).data.toList = wantV (gl.map Ce.va) (k + 1)) := Lib.hid (by
            refine ⟨?_, ?_⟩
            · rw [fmtV, ← HE.out.1]; simp [pieceF]
            · rw [wantV, ← HE.out.2]
              have : ((gl.map Ce.va).getD k noneV).s = [] := by
                rw [List.getD_eq_getElem?_getD, List.getElem?_eq_none (by simp; omega)]; rfl
              unfold pieceV
              rw [this]; simp)
          have hgi : decide (k < gl.length) = false := decide_eq_false hgk
          have h4 : (⟨#[60, 37, 115, 62]⟩ : ByteArray).size = 4 := rfl
          have h1 : (⟨#[60, 62]⟩ : ByteArray).size = 2 := rfl
          have hAi : (A.size : Int) ≤ 40 := by omega
          have hBi : (B.size : Int) ≤ 1000 := by omega
          go_wp2_with fail
          go_roundw
          case rel => exact ⟨k + 1, A ++ ⟨#[60, 37, 115, 62]⟩, B ++ ⟨#[60, 62]⟩, by omega, by rw [ByteArray.size_append]; omega, by rw [ByteArray.size_append]; omega, by go_num, rfl, rfl, HN, HB⟩
          case measure => simp [intOf]; omega
      · obtain rfl : k = m := by omega
        have hAF : A = F := WideShapes.bytes_inj (by rw [HE.out.1, HF.out.1])
        have hBR : B = R := WideShapes.bytes_inj (by rw [HE.out.2, HF.out.2])
        subst hAF hBR
        have HB' := Lib.hid (HB1.out.trans (HB.out.mono HB1.out.size))
        have HC' := Lib.hid (show CeAt wr (some ⟨g, 0, none⟩) gl from HC.out.below HB.out (Nat.le_refl _))
        clear HB HE
        go_wp2_with fail
        refine (CP.out _ _ _ HC'.out HLC.out (HG.out.next HB'.out)).mono ?_
        rintro e w2 ⟨rfl, hb2⟩
        have HB2 := Lib.hid (HB'.out.trans (hb2.mono HB'.out.size))
        clear hb2 HB' HC'
        go_wp2_with fail
        refine (CA.out _ (HG.out.next HB2.out)).mono ?_
        rintro e w3 ⟨rfl, hb3⟩
        have HB3 := Lib.hid (HB2.out.trans (hb3.mono HB2.out.size))
        clear hb3 HB2
        go_wp2_with fail
        go_ret
        exact ⟨rfl, HB3.out⟩
  · have hn : n < 0 ∨ 8 < n := by omega
    clear h08
    generalize goodL l 8 = gl at *
    rcases hn with hn | hn
    · go_enter Tryz.func8, Tryz.ntmps8
      go_wp2_with fail
      (with_reducible refine CG.out.mono ?_)
      rintro e w1 ⟨g, c, rfl, hCe, hc, hb1⟩
      have HB1 := Lib.hid hb1
      clear hb1 hCe hc
      go_wp2_with fail
      refine (CA.out _ (HG.out.next HB1.out)).mono ?_
      rintro e w3 ⟨rfl, hb3⟩
      have HB3 := Lib.hid (HB1.out.trans (hb3.mono HB1.out.size))
      clear hb3 HB1
      go_wp2_with fail
      go_ret
      exact ⟨rfl, HB3.out⟩
    · have hn0 : ¬ n < 0 := by omega
      go_enter Tryz.func8, Tryz.ntmps8
      go_wp2_with fail
      (with_reducible refine CG.out.mono ?_)
      rintro e w1 ⟨g, c, rfl, hCe, hc, hb1⟩
      have HB1 := Lib.hid hb1
      clear hb1 hCe hc
      go_wp2_with fail
      refine (CA.out _ (HG.out.next HB1.out)).mono ?_
      rintro e w3 ⟨rfl, hb3⟩
      have HB3 := Lib.hid (HB1.out.trans (hb3.mono HB1.out.size))
      clear hb3 HB1
      go_wp2_with fail
      go_ret
      exact ⟨rfl, HB3.out⟩
end Go.Proofs.YtciicmmfplnekaaGreatDoor
