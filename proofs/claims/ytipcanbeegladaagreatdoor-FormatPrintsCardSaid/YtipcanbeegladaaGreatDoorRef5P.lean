/-
  CONTRACT of the document's own answer for a text's number (scriberef05.Prefix): what it hands back is what the mathematics says; nothing that was there is written.
-/
import Derived.Test.YtipcanbeegladaaGreatDoorRef5W
namespace Go.Proofs.YtipcanbeegladaaGreatDoor
open Go.RowKit

/-- A piece of one byte. -/
theorem piece1 (s : ByteArray) (q : Nat) (hq : q < s.size) : (s.extract q (q + 1)).data.toList = [s[q]] := by
  rw [ByteArray.data_extract, Array.toList_extract]
  have e : s.data.toList.drop q = s[q] :: s.data.toList.drop (q + 1) := by
    rw [List.drop_eq_getElem_cons (by simpa using hq)]; rfl
  rw [List.extract_eq_take_drop, e]
  simp
/-- What has been read at place q, from the number's digits on. -/
def Rd5 (s : ByteArray) (p q : Nat) (W B : ByteArray) (dot : Bool) : Prop :=
  s.data.toList.take q = s.data.toList.take p ++ (W.data.toList ++ fr dot B.data.toList) ∧ (∀ c ∈ W.data.toList, isD c = true) ∧ (∀ c ∈ B.data.toList, isD c = true) ∧ (dot = false → B.data.toList = []) ∧ W.size + B.size ≤ q ∧ p ≤ q
theorem rd_start (s : ByteArray) (p : Nat) : Rd5 s p p ⟨#[]⟩ ⟨#[]⟩ false := ⟨by simp [fr], by simp, by simp, by simp, by simp [ByteArray.size], Nat.le_refl _⟩
theorem take_next (s : ByteArray) (q : Nat) (hq : q < s.size) : s.data.toList.take (q + 1) = s.data.toList.take q ++ [s[q]] := by
  rw [List.take_add_one, at_list s q hq]; rfl
theorem rd_whole {s : ByteArray} {p q : Nat} {W B : ByteArray} (h : Rd5 s p q W B false) (hq : q < s.size) (hd : isD s[q] = true) : Rd5 s p (q + 1) (W ++ s.extract q (q + 1)) B false := by
  obtain ⟨h1, h2, h3, h4, h5, h6⟩ := h
  have hB := h4 rfl
  refine ⟨?_, ?_, h3, h4, ?_, by omega⟩
  · rw [take_next s q hq, h1, ByteArray.data_append, Array.toList_append, piece1 s q hq]; simp [fr]
  · intro c hc
    rw [ByteArray.data_append, Array.toList_append, piece1 s q hq] at hc
    rcases List.mem_append.1 hc with hc | hc
    · exact h2 c hc
    · obtain rfl := List.mem_singleton.1 hc; exact hd
  · rw [ByteArray.size_append]
    have : (s.extract q (q + 1)).size = 1 := by simp; omega
    omega
theorem rd_part {s : ByteArray} {p q : Nat} {W B : ByteArray} (h : Rd5 s p q W B true) (hq : q < s.size) (hd : isD s[q] = true) : Rd5 s p (q + 1) W (B ++ s.extract q (q + 1)) true := by
  obtain ⟨h1, h2, h3, h4, h5, h6⟩ := h
  refine ⟨?_, h2, ?_, by simp, ?_, by omega⟩
  · rw [take_next s q hq, h1, ByteArray.data_append, Array.toList_append, piece1 s q hq]; simp [fr]
  · intro c hc
    rw [ByteArray.data_append, Array.toList_append, piece1 s q hq] at hc
    rcases List.mem_append.1 hc with hc | hc
    · exact h3 c hc
    · obtain rfl := List.mem_singleton.1 hc; exact hd
  · rw [ByteArray.size_append]
    have : (s.extract q (q + 1)).size = 1 := by simp; omega
    omega
theorem rd_dot {s : ByteArray} {p q : Nat} {W B : ByteArray} (h : Rd5 s p q W B false) (hq : q < s.size) (hd : s[q] = 46) : Rd5 s p (q + 1) W B true := by
  obtain ⟨h1, h2, h3, h4, h5, h6⟩ := h
  refine ⟨?_, h2, h3, by simp, by omega, by omega⟩
  rw [take_next s q hq, h1, hd, h4 rfl]; simp [fr]
/-- The end: the text taken apart. -/
theorem rd_end {s : ByteArray} {k q : Nat} {W B : ByteArray} {dot : Bool} (sg : List UInt8) (p : Nat) (h : Rd5 s p q W B dot) (hp : s.data.toList.take p = s.data.toList.take k ++ sg) (hbl : ∀ c ∈ s.data.toList.take k, blk c = true) (hsg : sg = [] ∨ sg = [45] ∨ sg = [43])
    (hend : ∀ hq : q < s.size, isD s[q] = false ∧ (dot = false → s[q] ≠ 46)) (h0 : sg = [] → ∀ hk : k < s.size, blk s[k] = false ∧ s[k] ≠ 45 ∧ s[k] ≠ 43) (hpk : sg = [] → p = k) (hqs : q ≤ s.size) :
    prefixL s.data.toList = if W.size + B.size = 0 then (0, 0) else (sgnI (decide (sg = [45])) (min mostN (valD (W.data.toList ++ pad6 B.data.toList))), q) := by
  obtain ⟨h1, h2, h3, h4, h5, h6⟩ := h
  have e : s.data.toList = s.data.toList.take k ++ (sg ++ (W.data.toList ++ (fr dot B.data.toList ++ s.data.toList.drop q))) := by
    conv => lhs; rw [← List.take_append_drop q s.data.toList, h1, hp]
    simp
  have hh := prefix_all (s.data.toList.take k) sg W.data.toList B.data.toList (s.data.toList.drop q) dot hbl hsg h2 h3 h4 (fun c hc => by
      rw [List.head?_drop] at hc
      by_cases hq : q < s.size
      · rw [at_list s q hq] at hc
        obtain rfl := Option.some.inj hc
        exact hend hq
      · rw [List.getElem?_eq_none (by simp; omega)] at hc; cases hc) (fun hs c hc => by
      subst hs
      have hc2 : (s.data.toList.drop k).head? = some c := by
        have : s.data.toList.drop k = W.data.toList ++ (fr dot B.data.toList ++ s.data.toList.drop q) := by
          have e2 : s.data.toList.take k ++ s.data.toList.drop k = s.data.toList.take k ++ (W.data.toList ++ (fr dot B.data.toList ++ s.data.toList.drop q)) := by
            rw [List.take_append_drop]; exact e
          exact List.append_cancel_left e2
        rw [this]; exact hc
      rw [List.head?_drop] at hc2
      by_cases hk : k < s.size
      · rw [at_list s k hk] at hc2
        obtain rfl := Option.some.inj hc2
        exact h0 rfl hk
      · rw [List.getElem?_eq_none (by simp; omega)] at hc2; cases hc2)
  rw [← e] at hh
  rw [hh]
  have hl : (s.data.toList.take k ++ (sg ++ (W.data.toList ++ fr dot B.data.toList))).length = q := by
    have : s.data.toList.take k ++ (sg ++ (W.data.toList ++ fr dot B.data.toList)) = s.data.toList.take q := by rw [h1, hp]; simp
    rw [this, List.length_take]; simp; omega
  rw [hl]
  simp
def P5 (s : ByteArray) (w : World) (e : Ending) (w' : World) : Prop := e = .returned (.tuple #[.int .i64 (prefixL s.data.toList).1, .int .i64 ((prefixL s.data.toList).2 : Int)]) ∧ w = w'
theorem p5_none {s : ByteArray} {w : World} (h : prefixL s.data.toList = (0, 0)) : P5 s w (.returned (.tuple #[.int .i64 0, .int .i64 0])) w := by unfold P5; rw [h]; exact ⟨rfl, rfl⟩
theorem p5_some {s : ByteArray} {w : World} {v : Int} {q : Nat} (h : prefixL s.data.toList = (v, q)) : P5 s w (.returned (.tuple #[.int .i64 v, .int .i64 (q : Int)])) w := by unfold P5; rw [h]; exact ⟨rfl, rfl⟩
/-- What stands ahead of the digits. -/
def Sg5 (s : ByteArray) (k p : Nat) (sg : List UInt8) : Prop :=
  s.data.toList.take p = s.data.toList.take k ++ sg ∧ (∀ c ∈ s.data.toList.take k, blk c = true) ∧ (sg = [] ∨ sg = [45] ∨ sg = [43]) ∧ (sg = [] → ∀ hk : k < s.size, blk s[k] = false ∧ s[k] ≠ 45 ∧ s[k] ≠ 43) ∧ (sg = [] → p = k)
/-- What is done behind the digits. -/
def Fin5 (s Wb Bb : ByteArray) (q : Nat) (minus : Bool) : Prop :=
  (Wb.size + Bb.size = 0 ∧ prefixL s.data.toList = (0, 0)) ∨ (Wb.size + Bb.size ≠ 0 ∧ Wb.size + Bb.size ≤ 1000000 ∧ ∃ (Z Y X V : ByteArray) (v : Int), Bb ++ ⟨#[48, 48, 48, 48, 48, 48]⟩ = Z ∧ Z.size = Bb.size + 6 ∧ Z.extract 0 6 = Y ∧ Y.size = 6 ∧ Wb ++ Y = X
    ∧ Hid (∀ W, Calls Tryz.prog 85 #[.string X] W fun e w' => e = .returned (.string V) ∧ W = w') ∧ Hid (∀ W, Calls Tryz.prog 84 #[.bool minus, .string V] W fun e w' => e = .returned (.int .i64 v) ∧ W = w') ∧ prefixL s.data.toList = (v, q))
theorem fin5 {s : ByteArray} {k p q : Nat} {Wb Bb : ByteArray} {dot : Bool} {sg : List UInt8} (hs : s.size ≤ 1000000) (h : Rd5 s p q Wb Bb dot) (hp : Sg5 s k p sg) (hend : ∀ hq : q < s.size, isD s[q] = false ∧ (dot = false → s[q] ≠ 46)) (hq : q ≤ s.size) (minus : Bool) (hm : decide (sg = [45]) = minus) : Fin5 s Wb Bb q minus := by
  have HP := rd_end sg p h hp.1 hp.2.1 hp.2.2.1 hend hp.2.2.2.1 hp.2.2.2.2 hq
  have hsz := h.2.2.2.2.1
  by_cases hz : Wb.size + Bb.size = 0
  · exact .inl ⟨hz, by rw [HP, if_pos hz]⟩
  · rw [if_neg hz, hm] at HP
    refine .inr ⟨hz, by omega, Bb ++ ⟨#[48, 48, 48, 48, 48, 48]⟩, (Bb ++ ⟨#[48, 48, 48, 48, 48, 48]⟩).extract 0 6, Wb ++ (Bb ++ ⟨#[48, 48, 48, 48, 48, 48]⟩).extract 0 6, ?_⟩
    have hZs : (Bb ++ (⟨#[48, 48, 48, 48, 48, 48]⟩ : ByteArray)).size = Bb.size + 6 := by rw [ByteArray.size_append]; rfl
    have hYl : ((Bb ++ (⟨#[48, 48, 48, 48, 48, 48]⟩ : ByteArray)).extract 0 6).data.toList = pad6 Bb.data.toList := by rw [ext0, ByteArray.data_append, Array.toList_append]; rfl
    have hYs : ((Bb ++ (⟨#[48, 48, 48, 48, 48, 48]⟩ : ByteArray)).extract 0 6).size = 6 := by rw [ByteArray.size_extract, hZs]; omega
    generalize (Bb ++ (⟨#[48, 48, 48, 48, 48, 48]⟩ : ByteArray)).extract 0 6 = Y at *
    have hXl : (Wb ++ Y).data.toList = Wb.data.toList ++ pad6 Bb.data.toList := by rw [ByteArray.data_append, Array.toList_append, hYl]
    have hXs : (Wb ++ Y).size ≤ 1000006 := by rw [ByteArray.size_append]; omega
    generalize Wb ++ Y = X at *
    have hXd : ∀ c ∈ X.data.toList, isD c = true := by
      rw [hXl]; intro c hc
      rcases List.mem_append.1 hc with hc | hc
      · exact h.2.1 c hc
      · unfold pad6 at hc
        rcases List.mem_append.1 (List.mem_of_mem_take hc) with hc | hc
        · exact h.2.2.1 c hc
        · unfold zer6 at hc
          have : c = 48 := by simpa using hc
          rw [this]; rfl
    obtain ⟨V, hV, hVs⟩ := has_ba (X.data.toList.dropWhile (· == 48))
    have hVle := (List.dropWhile_sublist (· == (48 : UInt8)) (l := X.data.toList)).length_le
    have hXll : X.data.toList.length = X.size := by simp
    have hVd : ∀ c ∈ V.data.toList, isD c = true := fun c hc => hXd c ((List.dropWhile_sublist _).subset (by rw [← hV]; exact hc))
    have sg5 := fun W => rsigned_any minus V W (by omega) hVd
    rw [hV, strip_val, hXl] at sg5
    refine ⟨V, _, rfl, hZs, rfl, hYs, rfl, Lib.hid fun W => ?_, Lib.hid sg5, HP⟩
    refine (strip_any X W (by omega)).mono ?_
    rintro e w' ⟨rfl, rfl⟩
    exact ⟨ret_s (ba_of _ _ hV).symm, rfl⟩
set_option maxHeartbeats 16000000 in
set_option maxRecDepth 100000 in
theorem rprefix_any (s : ByteArray) (w : World) (hs : s.size ≤ 1000000) :
    Calls Tryz.prog 55 #[.string s] w (P5 s w) := by
  have hsi : (s.size : Int) ≤ 1000000 := by omega
  go_enter Tryz.func55, Tryz.ntmps55
  go_wp2
  go_loop [4] (fun i => ∃ k : Nat, k ≤ s.size ∧ i = .int .i64 k ∧ Hid (∀ j (hj : j < s.size), j < k → blk s[j] = true)) (fun i => s.size - (intOf i).toNat)
  case atStart => exact ⟨0, Nat.zero_le _, rfl, Lib.hid fun j _ h => absurd h (Nat.not_lt_zero j)⟩
  case round =>
    obtain ⟨k, hk, rfl, hall⟩ := hrel
    have hbl : Hid (∀ c ∈ s.data.toList.take k, blk c = true) := Lib.hid fun c hc => by
      obtain ⟨j, hj, hjc⟩ := List.mem_iff_getElem.1 hc
      have hj2 : j < k ∧ j < s.data.toList.length := by rw [List.length_take] at hj; omega
      have hjs : j < s.size := by simpa using hj2.2
      have := hall.out j hjs hj2.1
      have h3 := at_list s j hjs
      rw [List.getElem_take] at hjc
      rw [List.getElem?_eq_getElem hj2.2, hjc] at h3
      rw [Option.some.inj h3]; exact this
    by_cases hlt0 : k < s.size
    · have CB := Lib.hid fun W => rblank_any s[k] W
      cases hb : blk s[k]
      · rw [hb] at CB
        by_cases h45 : (s[k].toNat : Int) = 45
        · have e45 : s[k] = 45 := by apply UInt8.toNat_inj.1; show s[k].toNat = 45; omega
          have HPK : Sg5 s k (k + 1) [45] := ⟨by rw [take_next s k hlt0, e45], hbl.out, by simp, by simp, by simp⟩
          have cb := CB.out
          simp only [h45] at cb
          have CB := Lib.hid cb
          clear hall hbl hb e45 cb
          go_wp2_with ((with_reducible refine (CB.out _).mono ?_); rintro e w' ⟨rfl, rfl⟩)
          go_loop [4, 6, 7, 8] (fun at_ wv pv dv => ∃ (q : Nat) (Wb Bb : ByteArray) (dot : Bool), q ≤ s.size ∧ at_ = .int .i64 q ∧ wv = .string Wb ∧ pv = .string Bb ∧ dv = .int .i64 (if dot then 1 else 0) ∧ Hid (Rd5 s (k + 1) q Wb Bb dot)) (fun at_ _ _ _ => s.size - (intOf at_).toNat)
          case atStart => exact ⟨k + 1, ⟨#[]⟩, ⟨#[]⟩, false, by omega, by first | rfl | go_num, rfl, rfl, rfl, Lib.hid (rd_start s _)⟩
          case round =>
            obtain ⟨q, Wb, Bb, dot, hq, rfl, rfl, rfl, rfl, hrd⟩ := hrel
            have hszb := hrd.out.2.2.2.2.1
            by_cases hlt : q < s.size
            · by_cases hd1 : 48 ≤ (s[q].toNat : Int) ∧ (s[q].toNat : Int) ≤ 57
              · obtain ⟨hd1, hd2⟩ := hd1
                have hdg : isD s[q] = true := by unfold isD; exact decide_eq_true (by omega)
                have b46 : ((s[q].toNat : Int) == 46) = false := by simp; omega
                have hx1 : (s.extract q (q + 1)).size = 1 := by simp; omega
                have hwz : Wb.size ≤ 1000000 := by omega
                have hbz : Bb.size ≤ 1000000 := by omega
                cases dot
                · have HN := Lib.hid (rd_whole hrd.out hlt hdg)
                  clear hrd hdg
                  go_wp2_with fail
                  go_round
                  case rel => exact ⟨q + 1, _, _, false, by omega, by go_num, rfl, rfl, rfl, HN⟩
                  case measure => simp [intOf]; omega
                · have HN := Lib.hid (rd_part hrd.out hlt hdg)
                  clear hrd hdg
                  go_wp2_with fail
                  go_round
                  case rel => exact ⟨q + 1, _, _, true, by omega, by go_num, rfl, rfl, rfl, HN⟩
                  case measure => simp [intOf]; omega
              · have hnd : isD s[q] = false := by unfold isD; exact decide_eq_false (by omega)
                have hcase : (s[q].toNat : Int) < 48 ∨ (48 ≤ (s[q].toNat : Int) ∧ 57 < (s[q].toNat : Int)) := by omega
                by_cases h46 : (s[q].toNat : Int) = 46
                · cases dot
                  · have HN := Lib.hid (rd_dot hrd.out hlt (by apply UInt8.toNat_inj.1; show s[q].toNat = 46; omega))
                    clear hrd hnd hcase hd1
                    go_wp2_with fail
                    go_round
                    case rel => exact ⟨q + 1, _, _, true, by omega, by go_num, rfl, rfl, rfl, HN⟩
                    case measure => simp [intOf]; omega
                  · clear hcase hd1
                    have HF := fin5 hs hrd.out HPK (fun _ => ⟨hnd, by simp⟩) hq true (by decide)
                    clear hrd HPK
                    rcases HF with ⟨hz, HR⟩ | ⟨hz, hzb, Z, Y, X, V, v, hZ, hZs, hY, hYs, hX, ST, SG, HR⟩
                    · have HR := Lib.hid HR
                      have hzi : (Wb.size : Int) + (Bb.size : Int) = 0 := by omega
                      clear hz
                      go_wp2_with fail
                      go_ret2
                      exact p5_none HR.out
                    · have HR := Lib.hid HR
                      have hzi : (0 : Int) < (Wb.size : Int) + (Bb.size : Int) := by omega
                      have hbi : (Wb.size : Int) + (Bb.size : Int) ≤ 1000000 := by omega
                      have hZ6 : 6 ≤ Z.size := by omega
                      have hbz : Bb.size ≤ 1000000 := by omega
                      have hwz : Wb.size ≤ 1000000 := by omega
                      have hYi : Y.size ≤ 6 := by omega
                      clear hz hZs hYs
                      go_wp2_with (first
                        | ((with_reducible refine (ST.out _).mono ?_); rintro e w' ⟨rfl, rfl⟩)
                        | ((with_reducible refine (SG.out _).mono ?_); rintro e w' ⟨rfl, rfl⟩))
                      go_ret2
                      exact p5_some HR.out
                · have b46 : ((s[q].toNat : Int) == 46) = false := by simpa using h46
                  have hne : s[q] ≠ 46 := by intro h; rw [h] at h46; exact h46 rfl
                  rcases hcase with hd1 | ⟨hd1, hd2⟩
                  all_goals
                    cases dot
                    all_goals
                      have HF := fin5 hs hrd.out HPK (fun _ => ⟨hnd, fun _ => hne⟩) hq true (by decide)
                      clear hrd HPK
                      rcases HF with ⟨hz, HR⟩ | ⟨hz, hzb, Z, Y, X, V, v, hZ, hZs, hY, hYs, hX, ST, SG, HR⟩
                      · have HR := Lib.hid HR
                        have hzi : (Wb.size : Int) + (Bb.size : Int) = 0 := by omega
                        clear hz
                        go_wp2_with fail
                        go_ret2
                        exact p5_none HR.out
                      · have HR := Lib.hid HR
                        have hzi : (0 : Int) < (Wb.size : Int) + (Bb.size : Int) := by omega
                        have hbi : (Wb.size : Int) + (Bb.size : Int) ≤ 1000000 := by omega
                        have hZ6 : 6 ≤ Z.size := by omega
                        have hbz : Bb.size ≤ 1000000 := by omega
                        have hwz : Wb.size ≤ 1000000 := by omega
                        have hYi : Y.size ≤ 6 := by omega
                        clear hz hZs hYs
                        go_wp2_with (first
                          | ((with_reducible refine (ST.out _).mono ?_); rintro e w' ⟨rfl, rfl⟩)
                          | ((with_reducible refine (SG.out _).mono ?_); rintro e w' ⟨rfl, rfl⟩))
                        go_ret2
                        exact p5_some HR.out
            · cases dot
              all_goals
                have HF := fin5 hs hrd.out HPK (fun h => absurd h hlt) hq true (by decide)
                clear hrd HPK
                rcases HF with ⟨hz, HR⟩ | ⟨hz, hzb, Z, Y, X, V, v, hZ, hZs, hY, hYs, hX, ST, SG, HR⟩
                · have HR := Lib.hid HR
                  have hzi : (Wb.size : Int) + (Bb.size : Int) = 0 := by omega
                  clear hz
                  go_wp2_with fail
                  go_ret2
                  exact p5_none HR.out
                · have HR := Lib.hid HR
                  have hzi : (0 : Int) < (Wb.size : Int) + (Bb.size : Int) := by omega
                  have hbi : (Wb.size : Int) + (Bb.size : Int) ≤ 1000000 := by omega
                  have hZ6 : 6 ≤ Z.size := by omega
                  have hbz : Bb.size ≤ 1000000 := by omega
                  have hwz : Wb.size ≤ 1000000 := by omega
                  have hYi : Y.size ≤ 6 := by omega
                  clear hz hZs hYs
                  go_wp2_with (first
                    | ((with_reducible refine (ST.out _).mono ?_); rintro e w' ⟨rfl, rfl⟩)
                    | ((with_reducible refine (SG.out _).mono ?_); rintro e w' ⟨rfl, rfl⟩))
                  go_ret2
                  exact p5_some HR.out
        · by_cases h43 : (s[k].toNat : Int) = 43
          · have e43 : s[k] = 43 := by apply UInt8.toNat_inj.1; show s[k].toNat = 43; omega
            have HPK : Sg5 s k (k + 1) [43] := ⟨by rw [take_next s k hlt0, e43], hbl.out, by simp, by simp, by simp⟩
            have b45 : ((s[k].toNat : Int) == 45) = false := by simpa using h45
            have cb := CB.out
            simp only [h43] at cb
            have CB := Lib.hid cb
            clear hall hbl hb e43 h45 cb
            go_wp2_with ((with_reducible refine (CB.out _).mono ?_); rintro e w' ⟨rfl, rfl⟩)
            go_loop [4, 6, 7, 8] (fun at_ wv pv dv => ∃ (q : Nat) (Wb Bb : ByteArray) (dot : Bool), q ≤ s.size ∧ at_ = .int .i64 q ∧ wv = .string Wb ∧ pv = .string Bb ∧ dv = .int .i64 (if dot then 1 else 0) ∧ Hid (Rd5 s (k + 1) q Wb Bb dot)) (fun at_ _ _ _ => s.size - (intOf at_).toNat)
            case atStart => exact ⟨k + 1, ⟨#[]⟩, ⟨#[]⟩, false, by omega, by first | rfl | go_num, rfl, rfl, rfl, Lib.hid (rd_start s _)⟩
            case round =>
              obtain ⟨q, Wb, Bb, dot, hq, rfl, rfl, rfl, rfl, hrd⟩ := hrel
              have hszb := hrd.out.2.2.2.2.1
              by_cases hlt : q < s.size
              · by_cases hd1 : 48 ≤ (s[q].toNat : Int) ∧ (s[q].toNat : Int) ≤ 57
                · obtain ⟨hd1, hd2⟩ := hd1
                  have hdg : isD s[q] = true := by unfold isD; exact decide_eq_true (by omega)
                  have b46 : ((s[q].toNat : Int) == 46) = false := by simp; omega
                  have hx1 : (s.extract q (q + 1)).size = 1 := by simp; omega
                  have hwz : Wb.size ≤ 1000000 := by omega
                  have hbz : Bb.size ≤ 1000000 := by omega
                  cases dot
                  · have HN := Lib.hid (rd_whole hrd.out hlt hdg)
                    clear hrd hdg
                    go_wp2_with fail
                    go_round
                    case rel => exact ⟨q + 1, _, _, false, by omega, by go_num, rfl, rfl, rfl, HN⟩
                    case measure => simp [intOf]; omega
                  · have HN := Lib.hid (rd_part hrd.out hlt hdg)
                    clear hrd hdg
                    go_wp2_with fail
                    go_round
                    case rel => exact ⟨q + 1, _, _, true, by omega, by go_num, rfl, rfl, rfl, HN⟩
                    case measure => simp [intOf]; omega
                · have hnd : isD s[q] = false := by unfold isD; exact decide_eq_false (by omega)
                  have hcase : (s[q].toNat : Int) < 48 ∨ (48 ≤ (s[q].toNat : Int) ∧ 57 < (s[q].toNat : Int)) := by omega
                  by_cases h46 : (s[q].toNat : Int) = 46
                  · cases dot
                    · have HN := Lib.hid (rd_dot hrd.out hlt (by apply UInt8.toNat_inj.1; show s[q].toNat = 46; omega))
                      clear hrd hnd hcase hd1
                      go_wp2_with fail
                      go_round
                      case rel => exact ⟨q + 1, _, _, true, by omega, by go_num, rfl, rfl, rfl, HN⟩
                      case measure => simp [intOf]; omega
                    · clear hcase hd1
                      have HF := fin5 hs hrd.out HPK (fun _ => ⟨hnd, by simp⟩) hq false (by decide)
                      clear hrd HPK
                      rcases HF with ⟨hz, HR⟩ | ⟨hz, hzb, Z, Y, X, V, v, hZ, hZs, hY, hYs, hX, ST, SG, HR⟩
                      · have HR := Lib.hid HR
                        have hzi : (Wb.size : Int) + (Bb.size : Int) = 0 := by omega
                        clear hz
                        go_wp2_with fail
                        go_ret2
                        exact p5_none HR.out
                      · have HR := Lib.hid HR
                        have hzi : (0 : Int) < (Wb.size : Int) + (Bb.size : Int) := by omega
                        have hbi : (Wb.size : Int) + (Bb.size : Int) ≤ 1000000 := by omega
                        have hZ6 : 6 ≤ Z.size := by omega
                        have hbz : Bb.size ≤ 1000000 := by omega
                        have hwz : Wb.size ≤ 1000000 := by omega
                        have hYi : Y.size ≤ 6 := by omega
                        clear hz hZs hYs
                        go_wp2_with (first
                          | ((with_reducible refine (ST.out _).mono ?_); rintro e w' ⟨rfl, rfl⟩)
                          | ((with_reducible refine (SG.out _).mono ?_); rintro e w' ⟨rfl, rfl⟩))
                        go_ret2
                        exact p5_some HR.out
                  · have b46 : ((s[q].toNat : Int) == 46) = false := by simpa using h46
                    have hne : s[q] ≠ 46 := by intro h; rw [h] at h46; exact h46 rfl
                    rcases hcase with hd1 | ⟨hd1, hd2⟩
                    all_goals
                      cases dot
                      all_goals
                        have HF := fin5 hs hrd.out HPK (fun _ => ⟨hnd, fun _ => hne⟩) hq false (by decide)
                        clear hrd HPK
                        rcases HF with ⟨hz, HR⟩ | ⟨hz, hzb, Z, Y, X, V, v, hZ, hZs, hY, hYs, hX, ST, SG, HR⟩
                        · have HR := Lib.hid HR
                          have hzi : (Wb.size : Int) + (Bb.size : Int) = 0 := by omega
                          clear hz
                          go_wp2_with fail
                          go_ret2
                          exact p5_none HR.out
                        · have HR := Lib.hid HR
                          have hzi : (0 : Int) < (Wb.size : Int) + (Bb.size : Int) := by omega
                          have hbi : (Wb.size : Int) + (Bb.size : Int) ≤ 1000000 := by omega
                          have hZ6 : 6 ≤ Z.size := by omega
                          have hbz : Bb.size ≤ 1000000 := by omega
                          have hwz : Wb.size ≤ 1000000 := by omega
                          have hYi : Y.size ≤ 6 := by omega
                          clear hz hZs hYs
                          go_wp2_with (first
                            | ((with_reducible refine (ST.out _).mono ?_); rintro e w' ⟨rfl, rfl⟩)
                            | ((with_reducible refine (SG.out _).mono ?_); rintro e w' ⟨rfl, rfl⟩))
                          go_ret2
                          exact p5_some HR.out
              · cases dot
                all_goals
                  have HF := fin5 hs hrd.out HPK (fun h => absurd h hlt) hq false (by decide)
                  clear hrd HPK
                  rcases HF with ⟨hz, HR⟩ | ⟨hz, hzb, Z, Y, X, V, v, hZ, hZs, hY, hYs, hX, ST, SG, HR⟩
                  · have HR := Lib.hid HR
                    have hzi : (Wb.size : Int) + (Bb.size : Int) = 0 := by omega
                    clear hz
                    go_wp2_with fail
                    go_ret2
                    exact p5_none HR.out
                  · have HR := Lib.hid HR
                    have hzi : (0 : Int) < (Wb.size : Int) + (Bb.size : Int) := by omega
                    have hbi : (Wb.size : Int) + (Bb.size : Int) ≤ 1000000 := by omega
                    have hZ6 : 6 ≤ Z.size := by omega
                    have hbz : Bb.size ≤ 1000000 := by omega
                    have hwz : Wb.size ≤ 1000000 := by omega
                    have hYi : Y.size ≤ 6 := by omega
                    clear hz hZs hYs
                    go_wp2_with (first
                      | ((with_reducible refine (ST.out _).mono ?_); rintro e w' ⟨rfl, rfl⟩)
                      | ((with_reducible refine (SG.out _).mono ?_); rintro e w' ⟨rfl, rfl⟩))
                    go_ret2
                    exact p5_some HR.out
          · have HPK : Sg5 s k k [] := ⟨by simp, hbl.out, by simp, fun _ _ => ⟨hb, fun h => by rw [h] at h45; exact h45 rfl, fun h => by rw [h] at h43; exact h43 rfl⟩, fun _ => rfl⟩
            have b45 : ((s[k].toNat : Int) == 45) = false := by simpa using h45
            have b43 : ((s[k].toNat : Int) == 43) = false := by simpa using h43
            clear hall hbl hb h45 h43
            go_wp2_with ((with_reducible refine (CB.out _).mono ?_); rintro e w' ⟨rfl, rfl⟩)
            go_loop [4, 6, 7, 8] (fun at_ wv pv dv => ∃ (q : Nat) (Wb Bb : ByteArray) (dot : Bool), q ≤ s.size ∧ at_ = .int .i64 q ∧ wv = .string Wb ∧ pv = .string Bb ∧ dv = .int .i64 (if dot then 1 else 0) ∧ Hid (Rd5 s (k) q Wb Bb dot)) (fun at_ _ _ _ => s.size - (intOf at_).toNat)
            case atStart => exact ⟨k, ⟨#[]⟩, ⟨#[]⟩, false, by omega, by first | rfl | go_num, rfl, rfl, rfl, Lib.hid (rd_start s _)⟩
            case round =>
              obtain ⟨q, Wb, Bb, dot, hq, rfl, rfl, rfl, rfl, hrd⟩ := hrel
              have hszb := hrd.out.2.2.2.2.1
              by_cases hlt : q < s.size
              · by_cases hd1 : 48 ≤ (s[q].toNat : Int) ∧ (s[q].toNat : Int) ≤ 57
                · obtain ⟨hd1, hd2⟩ := hd1
                  have hdg : isD s[q] = true := by unfold isD; exact decide_eq_true (by omega)
                  have b46 : ((s[q].toNat : Int) == 46) = false := by simp; omega
                  have hx1 : (s.extract q (q + 1)).size = 1 := by simp; omega
                  have hwz : Wb.size ≤ 1000000 := by omega
                  have hbz : Bb.size ≤ 1000000 := by omega
                  cases dot
                  · have HN := Lib.hid (rd_whole hrd.out hlt hdg)
                    clear hrd hdg
                    go_wp2_with fail
                    go_round
                    case rel => exact ⟨q + 1, _, _, false, by omega, by go_num, rfl, rfl, rfl, HN⟩
                    case measure => simp [intOf]; omega
                  · have HN := Lib.hid (rd_part hrd.out hlt hdg)
                    clear hrd hdg
                    go_wp2_with fail
                    go_round
                    case rel => exact ⟨q + 1, _, _, true, by omega, by go_num, rfl, rfl, rfl, HN⟩
                    case measure => simp [intOf]; omega
                · have hnd : isD s[q] = false := by unfold isD; exact decide_eq_false (by omega)
                  have hcase : (s[q].toNat : Int) < 48 ∨ (48 ≤ (s[q].toNat : Int) ∧ 57 < (s[q].toNat : Int)) := by omega
                  by_cases h46 : (s[q].toNat : Int) = 46
                  · cases dot
                    · have HN := Lib.hid (rd_dot hrd.out hlt (by apply UInt8.toNat_inj.1; show s[q].toNat = 46; omega))
                      clear hrd hnd hcase hd1
                      go_wp2_with fail
                      go_round
                      case rel => exact ⟨q + 1, _, _, true, by omega, by go_num, rfl, rfl, rfl, HN⟩
                      case measure => simp [intOf]; omega
                    · clear hcase hd1
                      have HF := fin5 hs hrd.out HPK (fun _ => ⟨hnd, by simp⟩) hq false (by decide)
                      clear hrd HPK
                      rcases HF with ⟨hz, HR⟩ | ⟨hz, hzb, Z, Y, X, V, v, hZ, hZs, hY, hYs, hX, ST, SG, HR⟩
                      · have HR := Lib.hid HR
                        have hzi : (Wb.size : Int) + (Bb.size : Int) = 0 := by omega
                        clear hz
                        go_wp2_with fail
                        go_ret2
                        exact p5_none HR.out
                      · have HR := Lib.hid HR
                        have hzi : (0 : Int) < (Wb.size : Int) + (Bb.size : Int) := by omega
                        have hbi : (Wb.size : Int) + (Bb.size : Int) ≤ 1000000 := by omega
                        have hZ6 : 6 ≤ Z.size := by omega
                        have hbz : Bb.size ≤ 1000000 := by omega
                        have hwz : Wb.size ≤ 1000000 := by omega
                        have hYi : Y.size ≤ 6 := by omega
                        clear hz hZs hYs
                        go_wp2_with (first
                          | ((with_reducible refine (ST.out _).mono ?_); rintro e w' ⟨rfl, rfl⟩)
                          | ((with_reducible refine (SG.out _).mono ?_); rintro e w' ⟨rfl, rfl⟩))
                        go_ret2
                        exact p5_some HR.out
                  · have b46 : ((s[q].toNat : Int) == 46) = false := by simpa using h46
                    have hne : s[q] ≠ 46 := by intro h; rw [h] at h46; exact h46 rfl
                    rcases hcase with hd1 | ⟨hd1, hd2⟩
                    all_goals
                      cases dot
                      all_goals
                        have HF := fin5 hs hrd.out HPK (fun _ => ⟨hnd, fun _ => hne⟩) hq false (by decide)
                        clear hrd HPK
                        rcases HF with ⟨hz, HR⟩ | ⟨hz, hzb, Z, Y, X, V, v, hZ, hZs, hY, hYs, hX, ST, SG, HR⟩
                        · have HR := Lib.hid HR
                          have hzi : (Wb.size : Int) + (Bb.size : Int) = 0 := by omega
                          clear hz
                          go_wp2_with fail
                          go_ret2
                          exact p5_none HR.out
                        · have HR := Lib.hid HR
                          have hzi : (0 : Int) < (Wb.size : Int) + (Bb.size : Int) := by omega
                          have hbi : (Wb.size : Int) + (Bb.size : Int) ≤ 1000000 := by omega
                          have hZ6 : 6 ≤ Z.size := by omega
                          have hbz : Bb.size ≤ 1000000 := by omega
                          have hwz : Wb.size ≤ 1000000 := by omega
                          have hYi : Y.size ≤ 6 := by omega
                          clear hz hZs hYs
                          go_wp2_with (first
                            | ((with_reducible refine (ST.out _).mono ?_); rintro e w' ⟨rfl, rfl⟩)
                            | ((with_reducible refine (SG.out _).mono ?_); rintro e w' ⟨rfl, rfl⟩))
                          go_ret2
                          exact p5_some HR.out
              · cases dot
                all_goals
                  have HF := fin5 hs hrd.out HPK (fun h => absurd h hlt) hq false (by decide)
                  clear hrd HPK
                  rcases HF with ⟨hz, HR⟩ | ⟨hz, hzb, Z, Y, X, V, v, hZ, hZs, hY, hYs, hX, ST, SG, HR⟩
                  · have HR := Lib.hid HR
                    have hzi : (Wb.size : Int) + (Bb.size : Int) = 0 := by omega
                    clear hz
                    go_wp2_with fail
                    go_ret2
                    exact p5_none HR.out
                  · have HR := Lib.hid HR
                    have hzi : (0 : Int) < (Wb.size : Int) + (Bb.size : Int) := by omega
                    have hbi : (Wb.size : Int) + (Bb.size : Int) ≤ 1000000 := by omega
                    have hZ6 : 6 ≤ Z.size := by omega
                    have hbz : Bb.size ≤ 1000000 := by omega
                    have hwz : Wb.size ≤ 1000000 := by omega
                    have hYi : Y.size ≤ 6 := by omega
                    clear hz hZs hYs
                    go_wp2_with (first
                      | ((with_reducible refine (ST.out _).mono ?_); rintro e w' ⟨rfl, rfl⟩)
                      | ((with_reducible refine (SG.out _).mono ?_); rintro e w' ⟨rfl, rfl⟩))
                    go_ret2
                    exact p5_some HR.out
      · rw [hb] at CB
        have HA : Hid (∀ j (hj : j < s.size), j < k + 1 → blk s[j] = true) := Lib.hid fun j hj hjk => by
          rcases Nat.lt_or_ge j k with h | h
          · exact hall.out j hj h
          · obtain rfl : j = k := by omega
            exact hb
        clear hall hbl hb
        go_wp2_with ((with_reducible refine (CB.out _).mono ?_); rintro e w' ⟨rfl, rfl⟩)
        go_round
        case rel => exact ⟨k + 1, by omega, by go_num, HA⟩
        case measure => simp [intOf]; omega
    · have HPK : Sg5 s k k [] := ⟨by simp, hbl.out, by simp, fun _ h => absurd h hlt0, fun _ => rfl⟩
      clear hall hbl
      go_wp2_with fail
      go_loop [4, 6, 7, 8] (fun at_ wv pv dv => ∃ (q : Nat) (Wb Bb : ByteArray) (dot : Bool), q ≤ s.size ∧ at_ = .int .i64 q ∧ wv = .string Wb ∧ pv = .string Bb ∧ dv = .int .i64 (if dot then 1 else 0) ∧ Hid (Rd5 s (k) q Wb Bb dot)) (fun at_ _ _ _ => s.size - (intOf at_).toNat)
      case atStart => exact ⟨k, ⟨#[]⟩, ⟨#[]⟩, false, by omega, by first | rfl | go_num, rfl, rfl, rfl, Lib.hid (rd_start s _)⟩
      case round =>
        obtain ⟨q, Wb, Bb, dot, hq, rfl, rfl, rfl, rfl, hrd⟩ := hrel
        have hszb := hrd.out.2.2.2.2.1
        by_cases hlt : q < s.size
        · by_cases hd1 : 48 ≤ (s[q].toNat : Int) ∧ (s[q].toNat : Int) ≤ 57
          · obtain ⟨hd1, hd2⟩ := hd1
            have hdg : isD s[q] = true := by unfold isD; exact decide_eq_true (by omega)
            have b46 : ((s[q].toNat : Int) == 46) = false := by simp; omega
            have hx1 : (s.extract q (q + 1)).size = 1 := by simp; omega
            have hwz : Wb.size ≤ 1000000 := by omega
            have hbz : Bb.size ≤ 1000000 := by omega
            cases dot
            · have HN := Lib.hid (rd_whole hrd.out hlt hdg)
              clear hrd hdg
              go_wp2_with fail
              go_round
              case rel => exact ⟨q + 1, _, _, false, by omega, by go_num, rfl, rfl, rfl, HN⟩
              case measure => simp [intOf]; omega
            · have HN := Lib.hid (rd_part hrd.out hlt hdg)
              clear hrd hdg
              go_wp2_with fail
              go_round
              case rel => exact ⟨q + 1, _, _, true, by omega, by go_num, rfl, rfl, rfl, HN⟩
              case measure => simp [intOf]; omega
          · have hnd : isD s[q] = false := by unfold isD; exact decide_eq_false (by omega)
            have hcase : (s[q].toNat : Int) < 48 ∨ (48 ≤ (s[q].toNat : Int) ∧ 57 < (s[q].toNat : Int)) := by omega
            by_cases h46 : (s[q].toNat : Int) = 46
            · cases dot
              · have HN := Lib.hid (rd_dot hrd.out hlt (by apply UInt8.toNat_inj.1; show s[q].toNat = 46; omega))
                clear hrd hnd hcase hd1
                go_wp2_with fail
                go_round
                case rel => exact ⟨q + 1, _, _, true, by omega, by go_num, rfl, rfl, rfl, HN⟩
                case measure => simp [intOf]; omega
              · clear hcase hd1
                have HF := fin5 hs hrd.out HPK (fun _ => ⟨hnd, by simp⟩) hq false (by decide)
                clear hrd HPK
                rcases HF with ⟨hz, HR⟩ | ⟨hz, hzb, Z, Y, X, V, v, hZ, hZs, hY, hYs, hX, ST, SG, HR⟩
                · have HR := Lib.hid HR
                  have hzi : (Wb.size : Int) + (Bb.size : Int) = 0 := by omega
                  clear hz
                  go_wp2_with fail
                  go_ret2
                  exact p5_none HR.out
                · have HR := Lib.hid HR
                  have hzi : (0 : Int) < (Wb.size : Int) + (Bb.size : Int) := by omega
                  have hbi : (Wb.size : Int) + (Bb.size : Int) ≤ 1000000 := by omega
                  have hZ6 : 6 ≤ Z.size := by omega
                  have hbz : Bb.size ≤ 1000000 := by omega
                  have hwz : Wb.size ≤ 1000000 := by omega
                  have hYi : Y.size ≤ 6 := by omega
                  clear hz hZs hYs
                  go_wp2_with (first
                    | ((with_reducible refine (ST.out _).mono ?_); rintro e w' ⟨rfl, rfl⟩)
                    | ((with_reducible refine (SG.out _).mono ?_); rintro e w' ⟨rfl, rfl⟩))
                  go_ret2
                  exact p5_some HR.out
            · have b46 : ((s[q].toNat : Int) == 46) = false := by simpa using h46
              have hne : s[q] ≠ 46 := by intro h; rw [h] at h46; exact h46 rfl
              rcases hcase with hd1 | ⟨hd1, hd2⟩
              all_goals
                cases dot
                all_goals
                  have HF := fin5 hs hrd.out HPK (fun _ => ⟨hnd, fun _ => hne⟩) hq false (by decide)
                  clear hrd HPK
                  rcases HF with ⟨hz, HR⟩ | ⟨hz, hzb, Z, Y, X, V, v, hZ, hZs, hY, hYs, hX, ST, SG, HR⟩
                  · have HR := Lib.hid HR
                    have hzi : (Wb.size : Int) + (Bb.size : Int) = 0 := by omega
                    clear hz
                    go_wp2_with fail
                    go_ret2
                    exact p5_none HR.out
                  · have HR := Lib.hid HR
                    have hzi : (0 : Int) < (Wb.size : Int) + (Bb.size : Int) := by omega
                    have hbi : (Wb.size : Int) + (Bb.size : Int) ≤ 1000000 := by omega
                    have hZ6 : 6 ≤ Z.size := by omega
                    have hbz : Bb.size ≤ 1000000 := by omega
                    have hwz : Wb.size ≤ 1000000 := by omega
                    have hYi : Y.size ≤ 6 := by omega
                    clear hz hZs hYs
                    go_wp2_with (first
                      | ((with_reducible refine (ST.out _).mono ?_); rintro e w' ⟨rfl, rfl⟩)
                      | ((with_reducible refine (SG.out _).mono ?_); rintro e w' ⟨rfl, rfl⟩))
                    go_ret2
                    exact p5_some HR.out
        · cases dot
          all_goals
            have HF := fin5 hs hrd.out HPK (fun h => absurd h hlt) hq false (by decide)
            clear hrd HPK
            rcases HF with ⟨hz, HR⟩ | ⟨hz, hzb, Z, Y, X, V, v, hZ, hZs, hY, hYs, hX, ST, SG, HR⟩
            · have HR := Lib.hid HR
              have hzi : (Wb.size : Int) + (Bb.size : Int) = 0 := by omega
              clear hz
              go_wp2_with fail
              go_ret2
              exact p5_none HR.out
            · have HR := Lib.hid HR
              have hzi : (0 : Int) < (Wb.size : Int) + (Bb.size : Int) := by omega
              have hbi : (Wb.size : Int) + (Bb.size : Int) ≤ 1000000 := by omega
              have hZ6 : 6 ≤ Z.size := by omega
              have hbz : Bb.size ≤ 1000000 := by omega
              have hwz : Wb.size ≤ 1000000 := by omega
              have hYi : Y.size ≤ 6 := by omega
              clear hz hZs hYs
              go_wp2_with (first
                | ((with_reducible refine (ST.out _).mono ?_); rintro e w' ⟨rfl, rfl⟩)
                | ((with_reducible refine (SG.out _).mono ?_); rintro e w' ⟨rfl, rfl⟩))
              go_ret2
              exact p5_some HR.out
end Go.Proofs.YtipcanbeegladaaGreatDoor
