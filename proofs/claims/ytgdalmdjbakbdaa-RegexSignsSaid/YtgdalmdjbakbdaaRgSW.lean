/-
  THE WALK of scribelaw09.RegexSigns: it returns true and writes to nothing that was there.
-/
import Derived.Test.YtgdalmdjbakbdaaRgGW
namespace Go.Proofs.Ytgdalmdjbakbdaa
open Go.RowKit

/-- A slice of bytes, as it lies. -/
def SgAt (W : World) (v : Value) (ks : List Int) : Prop := ∃ (a0 : Option Addr) (c : Nat), v = .slice a0 ks.length c ∧ ks.length ≤ maxLen ∧ ∀ (i : Nat) (hi : i < ks.length), ∃ a, a0 = some a ∧ (a.add i).block < W.heap.size ∧ W.cell? (a.add i) = some (.int .u8 ks[i]) ∧ 0 ≤ ks[i] ∧ ks[i] ≤ 255
/-- The sign that a byte stands for. -/
def sgB (z : Int) : UInt8 := if z % 3 = 1 then 43 else if z % 3 = 2 then 63 else 42
def sgX (ks : List Int) : List UInt8 := ks.map sgB
theorem sgX_sign (ks : List Int) : ∀ c ∈ sgX ks, signB c = true := by
  intro c hc
  obtain ⟨z, _, rfl⟩ := List.mem_map.1 hc
  unfold sgB
  split
  · rfl
  · split <;> rfl
theorem signsT_snoc (t : RT) (x : List UInt8) (c : UInt8) : signsT t (x ++ [c]) = .mk (oftenR c) W4.zero [signsT t x] := by unfold signsT; rw [List.foldl_append]; rfl
theorem sgX_take (ks : List Int) (k : Nat) (h : k < ks.length) : sgX (ks.take (k + 1)) = sgX (ks.take k) ++ [sgB ks[k]] := by
  unfold sgX
  rw [List.take_succ_eq_append_getElem h, List.map_append]; rfl
theorem BlkN.put6 {w : World} {g : Nat} {a : Nd} (h : BlkN w g a) (n : Nd) : BlkN (put6 w g n) g n := by
  unfold Go.Proofs.Ytgdalmdjbakbdaa.put6
  exact rg_setCell (rg_setCell (rg_setCell (rg_setCell (rg_setCell (rg_setCell h _) _) _) _) _) _
/-- Where the loop stands. -/
structure SgL (w0 : World) (g : Nat) (t : RT) (n : Nd) (W : World) : Prop where
  blk : BlkN W g n
  tree : TreeN W (fun k => k ≠ g) t n
  bel : Below w0.heap.size w0 W
theorem SgL.below {w0 : World} {g : Nat} {t : RT} {n : Nd} {W W' : World} (h : SgL w0 g t n W) (hb : Below W.heap.size W W') : SgL w0 g t n W' :=
  ⟨h.blk.below hb, h.tree.kept (fun k _ hl => hb.block k hl) (fun _ hk _ => hk), h.bel.trans (hb.mono h.bel.size)⟩
theorem SgL.step {w0 : World} {g : Nat} {t : RT} {n : Nd} {W : World} (h : SgL w0 g t n W) (hg : w0.heap.size ≤ g) (c : UInt8) (q : Int) (hq : (oftenR c : Int) = q) (cs : Array Value) (hc : cs.toList = n.vals) :
    ∀ W', W' = (put6 W g ⟨q, W4.zero, some ⟨W.heap.size, 0, none⟩, 1, 1⟩).alloc (.cells cs 28) → SgL w0 g (.mk (oftenR c) W4.zero [t]) ⟨q, W4.zero, some ⟨W.heap.size, 0, none⟩, 1, 1⟩ W' := by
  subst hq
  intro W' hW
  have hgl := h.blk.lt
  obtain ⟨P, hP⟩ : ∃ P, put6 W g ⟨oftenR c, W4.zero, some ⟨W.heap.size, 0, none⟩, 1, 1⟩ = P := ⟨_, rfl⟩
  have hPs : P.heap.size = W.heap.size := by rw [← hP]; unfold Go.Proofs.Ytgdalmdjbakbdaa.put6; simp only [World.size_setCell]
  have hPb : ∀ k, k ≠ g → P.heap[k]? = W.heap[k]? := fun k hne => by rw [← hP]; exact put6_block hne _
  have hPg : BlkN P g ⟨oftenR c, W4.zero, some ⟨W.heap.size, 0, none⟩, 1, 1⟩ := by rw [← hP]; exact h.blk.put6 _
  have hbel : Below w0.heap.size w0 P := by
    rw [← hP]; unfold Go.Proofs.Ytgdalmdjbakbdaa.put6
    exact (((((h.bel.setCell hg _).setCell hg _).setCell hg _).setCell hg _).setCell hg _).setCell hg _
  rw [hP] at hW
  subst hW
  refine ⟨hPg.alloc _, ?_, hbel.alloc (by have := h.bel.size; omega) _⟩
  unfold TreeN
  refine ⟨rfl, rfl, [n], ?_, fun k hk => ?_, ?_⟩
  · have hlit := World.ownsRow_lit (base := 0) (e := 28) (size := 6) P cs 1 (Nat.zero_le _) (by decide) (by have := congrArg List.length hc; simpa [Nd.vals] using this)
    rw [hPs] at hlit
    have e : ndRow [n] = cs.toList := by rw [hc]; simp [ndRow]
    rw [e]
    exact hlit
  · simp [Nd.kids, Value.ownBlock] at hk
    omega
  · unfold TreesN
    refine ⟨n, [], rfl, h.tree.kept (fun k hk hl => (Below.heap_alloc P _ k (by omega)).trans (hPb k hk)) (fun _ hk _ => hk), ?_⟩
    unfold TreesN; rfl
/-- What lies in memory behind the last call of Parse. -/
structure SgS (w0 : World) (t : RT) (ga gb : Nat) (n1 n2 : Nd) (W : World) : Prop where
  a : BlkN W ga n1
  b : BlkN W gb n2
  ta : TreeN W (fun _ => True) t n1
  tb : TreeN W (fun _ => True) t n2
  bel : Below w0.heap.size w0 W
theorem SgS.below {w0 : World} {t : RT} {ga gb : Nat} {n1 n2 : Nd} {W W' : World} (h : SgS w0 t ga gb n1 n2 W) (hb : Below W.heap.size W W') : SgS w0 t ga gb n1 n2 W' :=
  ⟨h.a.below hb, h.b.below hb, h.ta.below hb, h.tb.below hb, h.bel.trans (hb.mono h.bel.size)⟩
theorem SgS.drew {w0 : World} {t : RT} {ga gb : Nat} {n1 n2 : Nd} {W : World} (h : SgS w0 t ga gb n1 n2 W) : SgS w0 t ga gb n1 n2 W.drew := h.below (Below.refl _ _).drew
theorem signs_len : ∀ (x : List UInt8) (t : RT), (printL (signsT t x)).length ≤ (printL t).length + 3 * x.length
  | [], _ => Nat.le_refl _
  | c :: x, t => by
    have h := signs_len x (.mk (oftenR c) W4.zero [t])
    rw [printL_len, setL_no _ (by unfold oftenR; split <;> (try split) <;> decide), kidsL_len_cons, kidsL_nil] at h
    show (printL (signsT (.mk (oftenR c) W4.zero [t]) x)).length ≤ _
    simp only [List.length_cons]
    omega
set_option maxHeartbeats 8000000 in
set_option maxRecDepth 100000 in
theorem signs_walk (s0 : ByteArray) (w0 : s0.size ≤ maxLen) (sv : Value) (ks : List Int) (w : World) (hS : SgAt w sv ks) :
    Calls Try.prog 8 #[.string s0, sv] w fun e w' => e = .returned (.bool true) ∧ Below w.heap.size w w' := by
  have C0 : Hid (∀ W, Calls Try.prog 9 #[.string s0, .int .i64 60] W fun e w' => e = .returned (.string (cutB s0 60)) ∧ W = w') := Lib.hid fun W => cut_any s0 60 W w0 (by omega)
  have hts := cutB_size s0 60
  generalize cutB s0 60 = s at *
  obtain ⟨a0, sc, rfl, hkl, hcell⟩ := hS
  obtain ⟨A, hA⟩ : ∃ A, (⟨#[40]⟩ : ByteArray) ++ s ++ ⟨#[41]⟩ = A := ⟨_, rfl⟩
  have hAl : A.data.toList = 40 :: (s.data.toList ++ [41]) := by rw [← hA]; simp [ByteArray.data_append]
  have z1 : (⟨#[40]⟩ : ByteArray).size = 1 := rfl
  have z2 : (⟨#[41]⟩ : ByteArray).size = 1 := rfl
  have hAs : A.size ≤ 62 := by rw [← hA, ByteArray.size_append, ByteArray.size_append]; omega
  have PS := Lib.hid (rparse_ran s (by omega))
  have AW := Lib.hid ragwake_any
  have HA := Lib.hid hA
  have HAL := Lib.hid hAl
  have HCELL := Lib.hid hcell
  unfold maxLen at hkl
  clear hA hAl w0 z1 z2 hcell
  go_enter Try.func8, Try.ntmps8
  go_wp2_with ((with_reducible refine (C0.out _).mono ?_); rintro e w' ⟨rfl, rfl⟩)
  refine (PS.out _).mono ?_
  rintro e w1 ⟨n1, a1, er1, rfl, hra1, hb1⟩
  have HRS := Lib.hid hra1
  have HN1 := Lib.hid (show BlkN (w1.alloc (.cells #[.int .i64 n1.op, .int .u64 n1.set.a, .int .u64 n1.set.b, .int .u64 n1.set.c, .int .u64 n1.set.d, .slice n1.kp n1.kn n1.kc] 28)) w1.heap.size n1 from heap_alloc_new w1 _)
  have HB1 := Lib.hid (hb1.alloc hb1.size (.cells #[.int .i64 n1.op, .int .u64 n1.set.a, .int .u64 n1.set.b, .int .u64 n1.set.c, .int .u64 n1.set.d, .slice n1.kp n1.kn n1.kc] 28))
  have HG1 := Lib.hid (show w.heap.size ≤ w1.heap.size from hb1.size)
  clear hra1 hb1 PS
  unfold Nd.val
  by_cases h1 : er1 = 0
  · obtain ⟨t, r, HT, HT1⟩ := HRS.out.some h1
    have HL : Hid (SgL w w1.heap.size t n1 (w1.alloc (.cells #[.int .i64 n1.op, .int .u64 n1.set.a, .int .u64 n1.set.b, .int .u64 n1.set.c, .int .u64 n1.set.d, .slice n1.kp n1.kn n1.kc] 28))) := Lib.hid ⟨HN1.out, HT1.kept (fun k _ hl => Below.heap_alloc w1 _ k hl) (fun k _ hl => by omega), HB1.out⟩
    have HT := Lib.hid HT
    subst h1
    clear HRS HT1 HN1 HB1
    go_wp2_with fail
    rw [HA.out]
    generalize w1.alloc (.cells #[.int .i64 n1.op, .int .u64 n1.set.a, .int .u64 n1.set.b, .int .u64 n1.set.c, .int .u64 n1.set.d, .slice n1.kp n1.kn n1.kc] 28) = wa at *
    generalize w1.heap.size = g1 at *
    go_loopw [8, 9] (fun tv iv wr => ∃ (k : Nat) (T : ByteArray) (n : Nd), k ≤ ks.length ∧ k ≤ 10 ∧ tv = .string T ∧ iv = .int .i64 (k : Int) ∧ T.size ≤ 62 + k ∧ Hid (T.data.toList = 40 :: (s.data.toList ++ 41 :: sgX (ks.take k))) ∧ Hid (SgL w g1 (signsT t (sgX (ks.take k))) n wr)) (fun _ iv _ => ks.length - (intOf iv).toNat)
    case atStart => exact ⟨0, A, n1, Nat.zero_le _, Nat.zero_le _, rfl, rfl, hAs, Lib.hid (by rw [HAL.out]; rfl), HL⟩
    case round =>
      obtain ⟨k, T, n, hk, hk10, rfl, rfl, hTs, HTX, HO⟩ := hrel
      clear HL HA HAL hAs
      obtain ⟨c0, c1, c2, c3, c4, c5, f0, f1, f2, f3, f4, f5⟩ := HO.out.blk.cells
      have hgl : g1 < wr.heap.size := HO.out.blk.lt
      by_cases hlt : k < ks.length
      · by_cases hl10 : k < 10
        · have hki : (k : Int) < (ks.length : Int) := by omega
          have hki2 : (k : Int) < 10 := by omega
          have hk0 : 0 ≤ (k : Int) := by omega
          have hd1 : decide ((k : Int) < (ks.length : Int)) = true := by simpa using hlt
          have hd2 : decide ((k : Int) < 10) = true := by simpa using hki2
          obtain ⟨a, rfl, hab, hac, hz0, hz1⟩ := HCELL.out k hlt
          have hcz : wr.cell? (a.add k) = some (.int .u8 ks[k]) := (HO.out.bel.cell hab).trans hac
          have HST := Lib.hid (sgX_take ks k hlt)
          obtain ⟨z, hz⟩ : ∃ z, ks[k] = z := ⟨_, rfl⟩
          rw [hz] at hcz hz0 hz1 HST
          clear hz hab hac
          have HTK := Lib.hid hTs
          rcases (show z % 3 = 0 ∨ z % 3 = 1 ∨ z % 3 = 2 by omega) with hm | hm | hm
          · have hmt : z.tmod 3 = 0 := by rw [Int.tmod_eq_emod_of_nonneg hz0]; exact hm
            have hsb : sgB z = 42 := by unfold sgB; rw [hm]; rfl
            have HSB := Lib.hid hsb
            clear hsb hm
            go_wp2_with fail
            refine ⟨⟨k + 1, T ++ ⟨#[42]⟩, ⟨4, W4.zero, some ⟨wr.heap.size, 0, none⟩, 1, 1⟩, by omega, by omega, rfl, by simp, ?_, Lib.hid ?_, Lib.hid ?_⟩, ?_⟩
            · have z9 : (⟨#[42]⟩ : ByteArray).size = 1 := rfl
              rw [ByteArray.size_append]; omega
            · have h9 := HTX.out
              rw [HST.out, HSB.out]
              simp [ByteArray.data_append, h9]
            · rw [HST.out, HSB.out, signsT_snoc]
              exact HO.out.step HG1.out 42 4 rfl _ rfl _ rfl
            · simp [intOf]; omega
          · have hmt : z.tmod 3 = 1 := by rw [Int.tmod_eq_emod_of_nonneg hz0]; exact hm
            have hsb : sgB z = 43 := by unfold sgB; rw [hm]; rfl
            have HSB := Lib.hid hsb
            clear hsb hm
            go_wp2_with fail
            refine ⟨⟨k + 1, T ++ ⟨#[43]⟩, ⟨5, W4.zero, some ⟨wr.heap.size, 0, none⟩, 1, 1⟩, by omega, by omega, rfl, by simp, ?_, Lib.hid ?_, Lib.hid ?_⟩, ?_⟩
            · have z9 : (⟨#[43]⟩ : ByteArray).size = 1 := rfl
              rw [ByteArray.size_append]; omega
            · have h9 := HTX.out
              rw [HST.out, HSB.out]
              simp [ByteArray.data_append, h9]
            · rw [HST.out, HSB.out, signsT_snoc]
              exact HO.out.step HG1.out 43 5 rfl _ rfl _ rfl
            · simp [intOf]; omega
          · have hmt : z.tmod 3 = 2 := by rw [Int.tmod_eq_emod_of_nonneg hz0]; exact hm
            have hsb : sgB z = 63 := by unfold sgB; rw [hm]; rfl
            have HSB := Lib.hid hsb
            clear hsb hm
            go_wp2_with fail
            refine ⟨⟨k + 1, T ++ ⟨#[63]⟩, ⟨6, W4.zero, some ⟨wr.heap.size, 0, none⟩, 1, 1⟩, by omega, by omega, rfl, by simp, ?_, Lib.hid ?_, Lib.hid ?_⟩, ?_⟩
            · have z9 : (⟨#[63]⟩ : ByteArray).size = 1 := rfl
              rw [ByteArray.size_append]; omega
            · have h9 := HTX.out
              rw [HST.out, HSB.out]
              simp [ByteArray.data_append, h9]
            · rw [HST.out, HSB.out, signsT_snoc]
              exact HO.out.step HG1.out 63 6 rfl _ rfl _ rfl
            · simp [intOf]; omega
        · have hki2 : ¬ (k : Int) < 10 := by omega
          have hki : (k : Int) < (ks.length : Int) := by omega
          have hd1 : decide ((k : Int) < (ks.length : Int)) = true := by simpa using hlt
          have hd2 : decide ((k : Int) < 10) = false := by simpa using hki2
          clear hlt hl10
          have PF := Lib.hid (rparse_ran T (by omega))
          have HXL := Lib.hid (show (sgX (ks.take k)).length ≤ 10 by unfold sgX; rw [List.length_map, List.length_take]; omega)
          clear hTs c0 c1 c2 c3 c4 c5 f0 f1 f2 f3 f4 f5
          go_wp2_with fail
          refine (PF.out _).mono ?_
          rintro e w3 ⟨n3, a3, er3, rfl, hra3, hb3⟩
          have HRB := Lib.hid hra3
          have HBd := Lib.hid (show Below wr.heap.size wr (w3.alloc (.cells #[.int .i64 n3.op, .int .u64 n3.set.a, .int .u64 n3.set.b, .int .u64 n3.set.c, .int .u64 n3.set.d, .slice n3.kp n3.kn n3.kc] 28)) from hb3.alloc hb3.size _)
          have HN3 := Lib.hid (show BlkN (w3.alloc (.cells #[.int .i64 n3.op, .int .u64 n3.set.a, .int .u64 n3.set.b, .int .u64 n3.set.c, .int .u64 n3.set.d, .slice n3.kp n3.kn n3.kc] 28)) w3.heap.size n3 from heap_alloc_new w3 _)
          have HL2 := Lib.hid (HO.out.below HBd.out)
          clear hra3 hb3 PF HBd HO
          unfold Nd.val
          rcases group_top HT.out with hm | hm
          · have hm1 := hm _ (sgX_sign (ks.take k))
            rw [← HTX.out] at hm1
            obtain ⟨rfl, HT3⟩ := HRB.out.full hm1
            have hTL := top_cost HT.out
            have hsl : s.data.toList.length = s.size := by simp
            have hsn := signs_len (sgX (ks.take k)) t
            have hxl := HXL.out
            obtain ⟨u, hu⟩ : ∃ u, signsT t (sgX (ks.take k)) = u := ⟨_, rfl⟩
            rw [hu] at HL2 HT3 hsn
            have HPL := Lib.hid (show (printL u).length ≤ 1000000 by omega)
            have HS := Lib.hid (show SgS w u g1 w3.heap.size n n3 (w3.alloc (.cells #[.int .i64 n3.op, .int .u64 n3.set.a, .int .u64 n3.set.b, .int .u64 n3.set.c, .int .u64 n3.set.d, .slice n3.kp n3.kn n3.kc] 28)) from ⟨HL2.out.blk, HN3.out, HL2.out.tree.kept (fun _ _ _ => rfl) (fun _ _ _ => trivial), HT3.below ((Below.refl _ _).alloc (Nat.le_refl _) _), HL2.out.bel⟩)
            clear hm hm1 hTL hsl hsn hxl hu HL2 HT3 HRB HN3 HXL HTX HT
            obtain ⟨V, hV⟩ : ∃ V : ByteArray, ⟨(printL u).toArray⟩ = V := ⟨_, rfl⟩
            have CA : Hid (∀ W, SgS w u g1 w3.heap.size n n3 W → Calls Try.prog 13 #[.agg #[.int .i64 n.op, .int .u64 n.set.a, .int .u64 n.set.b, .int .u64 n.set.c, .int .u64 n.set.d, .slice n.kp n.kn n.kc]] W fun e w' => e = .returned (.string V) ∧ Below W.heap.size W w') := Lib.hid fun W hW => by rw [← hV]; exact rPrint_any u n W _ hW.ta HPL.out
            have CB : Hid (∀ W, SgS w u g1 w3.heap.size n n3 W → Calls Try.prog 13 #[.agg #[.int .i64 n3.op, .int .u64 n3.set.a, .int .u64 n3.set.b, .int .u64 n3.set.c, .int .u64 n3.set.d, .slice n3.kp n3.kn n3.kc]] W fun e w' => e = .returned (.string V) ∧ Below W.heap.size W w') := Lib.hid fun W hW => by rw [← hV]; exact rPrint_any u n3 W _ hW.tb HPL.out
            clear hV HPL
            go_wp2_with fail
            generalize w3.heap.size = g4 at *
            generalize hwb : w3.alloc (.cells #[.int .i64 n3.op, .int .u64 n3.set.a, .int .u64 n3.set.b, .int .u64 n3.set.c, .int .u64 n3.set.d, .slice n3.kp n3.kn n3.kc] 28) = wc at *
            clear hwb
            refine wp_region_held_drew (S := fun w' => SgS w u g1 g4 n n3 w') (by kernel_rfl) (SgS.drew HS.out) (fun hHeld => ?_)
            refine wpAnyH_ready (rs := [0]) (by kernel_rfl) (by simp) ?_
            refine AllReadyH.cons (o := _) rfl (fun K hK => ?_) AllReadyH.nil
            go_simp
            refine (AW.out _).mono ?_
            rintro e w8 ⟨rfl, hb8⟩
            refine hK.out _ _ (hHeld.below hb8) (fun hHeld => ?_)
            clear hK K
            try simp only [List.getElem_toArray, List.getElem_cons_zero, List.getElem_cons_succ, Act.put, List.setIfInBounds_toArray, List.set_cons_zero, List.set_cons_succ]
            refine wpAnyH_take (i := 1) (oi := _) (v := ?_) rfl (by kernel_rfl) (by kernel_rfl) (by kernel_rfl) (fun _ _ _ h => h) (Or.inl ⟨by rfl, ?_⟩) (by assumption) ?_
            rotate_left
            · (intro w hSw; (obtain ⟨⟨q0, q1, q2, q3, q4, q5, _, _, _, _, _, _⟩, ⟨r0, r1, r2, r3, r4, r5, _, _, _, _, _, _⟩⟩ := And.intro (BlkN.cells hSw.a) (BlkN.cells hSw.b)); go_simp; try with_reducible rfl)
            try simp only [List.getElem_toArray, List.getElem_cons_zero, List.getElem_cons_succ, Act.put, List.setIfInBounds_toArray, List.set_cons_zero, List.set_cons_succ]
            refine wpAnyH_take (i := 2) (oi := _) (v := ?_) rfl (by kernel_rfl) (by kernel_rfl) (by kernel_rfl) (fun _ _ _ h => h) (Or.inl ⟨by rfl, ?_⟩) (by assumption) ?_
            rotate_left
            · (intro w hSw; (obtain ⟨⟨q0, q1, q2, q3, q4, q5, _, _, _, _, _, _⟩, ⟨r0, r1, r2, r3, r4, r5, _, _, _, _, _, _⟩⟩ := And.intro (BlkN.cells hSw.a) (BlkN.cells hSw.b)); go_simp; try with_reducible rfl)
            try simp only [List.getElem_toArray, List.getElem_cons_zero, List.getElem_cons_succ, Act.put, List.setIfInBounds_toArray, List.set_cons_zero, List.set_cons_succ]
            refine wpAnyH_take (i := 3) (oi := _) (v := ?_) rfl (by kernel_rfl) (by kernel_rfl) (by kernel_rfl) (fun _ _ _ h => h) (Or.inl ⟨by rfl, ?_⟩) (by assumption) ?_
            rotate_left
            · (intro w hSw; (obtain ⟨⟨q0, q1, q2, q3, q4, q5, _, _, _, _, _, _⟩, ⟨r0, r1, r2, r3, r4, r5, _, _, _, _, _, _⟩⟩ := And.intro (BlkN.cells hSw.a) (BlkN.cells hSw.b)); go_simp; try with_reducible rfl)
            try simp only [List.getElem_toArray, List.getElem_cons_zero, List.getElem_cons_succ, Act.put, List.setIfInBounds_toArray, List.set_cons_zero, List.set_cons_succ]
            refine wpAnyH_take (i := 4) (oi := _) (v := ?_) rfl (by kernel_rfl) (by kernel_rfl) (by kernel_rfl) (fun _ _ _ h => h) (Or.inl ⟨by rfl, ?_⟩) (by assumption) ?_
            rotate_left
            · (intro w hSw; (obtain ⟨⟨q0, q1, q2, q3, q4, q5, _, _, _, _, _, _⟩, ⟨r0, r1, r2, r3, r4, r5, _, _, _, _, _, _⟩⟩ := And.intro (BlkN.cells hSw.a) (BlkN.cells hSw.b)); go_simp; try with_reducible rfl)
            try simp only [List.getElem_toArray, List.getElem_cons_zero, List.getElem_cons_succ, Act.put, List.setIfInBounds_toArray, List.set_cons_zero, List.set_cons_succ]
            refine wpAnyH_take (i := 5) (oi := _) (v := ?_) rfl (by kernel_rfl) (by kernel_rfl) (by kernel_rfl) (fun _ _ _ h => h) (Or.inl ⟨by rfl, ?_⟩) (by assumption) ?_
            rotate_left
            · (intro w hSw; (obtain ⟨⟨q0, q1, q2, q3, q4, q5, _, _, _, _, _, _⟩, ⟨r0, r1, r2, r3, r4, r5, _, _, _, _, _, _⟩⟩ := And.intro (BlkN.cells hSw.a) (BlkN.cells hSw.b)); go_simp; try with_reducible rfl)
            try simp only [List.getElem_toArray, List.getElem_cons_zero, List.getElem_cons_succ, Act.put, List.setIfInBounds_toArray, List.set_cons_zero, List.set_cons_succ]
            refine wpAnyH_take (i := 6) (oi := _) (v := ?_) rfl (by kernel_rfl) (by kernel_rfl) (by kernel_rfl) (fun _ _ _ h => h) (Or.inl ⟨by rfl, ?_⟩) (by assumption) ?_
            rotate_left
            · (intro w hSw; (obtain ⟨⟨q0, q1, q2, q3, q4, q5, _, _, _, _, _, _⟩, ⟨r0, r1, r2, r3, r4, r5, _, _, _, _, _, _⟩⟩ := And.intro (BlkN.cells hSw.a) (BlkN.cells hSw.b)); go_simp; try with_reducible rfl)
            try simp only [List.getElem_toArray, List.getElem_cons_zero, List.getElem_cons_succ, Act.put, List.setIfInBounds_toArray, List.set_cons_zero, List.set_cons_succ]
            refine wpAnyH_take (i := 7) (oi := _) (v := ?_) rfl (by kernel_rfl) (by kernel_rfl) (by kernel_rfl) (fun _ _ _ h => h) (Or.inl ⟨by rfl, ?_⟩) (by assumption) ?_
            rotate_left
            · (intro w hSw; (obtain ⟨⟨q0, q1, q2, q3, q4, q5, _, _, _, _, _, _⟩, ⟨r0, r1, r2, r3, r4, r5, _, _, _, _, _, _⟩⟩ := And.intro (BlkN.cells hSw.a) (BlkN.cells hSw.b)); go_simp; try with_reducible rfl)
            try simp only [List.getElem_toArray, List.getElem_cons_zero, List.getElem_cons_succ, Act.put, List.setIfInBounds_toArray, List.set_cons_zero, List.set_cons_succ]
            refine wpAnyH_take (i := 8) (oi := _) (v := ?_) rfl (by kernel_rfl) (by kernel_rfl) (by kernel_rfl) (fun _ _ _ h => h) (Or.inl ⟨by rfl, ?_⟩) (by assumption) ?_
            rotate_left
            · (intro w hSw; (obtain ⟨⟨q0, q1, q2, q3, q4, q5, _, _, _, _, _, _⟩, ⟨r0, r1, r2, r3, r4, r5, _, _, _, _, _, _⟩⟩ := And.intro (BlkN.cells hSw.a) (BlkN.cells hSw.b)); go_simp; try with_reducible rfl)
            try simp only [List.getElem_toArray, List.getElem_cons_zero, List.getElem_cons_succ, Act.put, List.setIfInBounds_toArray, List.set_cons_zero, List.set_cons_succ]
            refine wpAnyH_take (i := 10) (oi := _) (v := ?_) rfl (by kernel_rfl) (by kernel_rfl) (by kernel_rfl) (fun _ _ _ h => h) (Or.inl ⟨by rfl, ?_⟩) (by assumption) ?_
            rotate_left
            · (intro w hSw; (obtain ⟨⟨q0, q1, q2, q3, q4, q5, _, _, _, _, _, _⟩, ⟨r0, r1, r2, r3, r4, r5, _, _, _, _, _, _⟩⟩ := And.intro (BlkN.cells hSw.a) (BlkN.cells hSw.b)); go_simp; try with_reducible rfl)
            try simp only [List.getElem_toArray, List.getElem_cons_zero, List.getElem_cons_succ, Act.put, List.setIfInBounds_toArray, List.set_cons_zero, List.set_cons_succ]
            refine wpAnyH_ready (rs := [9]) (by kernel_rfl) (by simp) ?_
            refine AllReadyH.cons (o := _) rfl (fun K hK => ?_) AllReadyH.nil
            go_simp
            refine (CB.out _ hHeld).mono ?_
            rintro e w8 ⟨rfl, hb8⟩
            refine hK.out _ _ (hHeld.below hb8) (fun hHeld => ?_)
            clear hK K
            try simp only [List.getElem_toArray, List.getElem_cons_zero, List.getElem_cons_succ, Act.put, List.setIfInBounds_toArray, List.set_cons_zero, List.set_cons_succ]
            refine wpAnyH_ready (rs := [11]) (by kernel_rfl) (by simp) ?_
            refine AllReadyH.cons (o := _) rfl (fun K hK => ?_) AllReadyH.nil
            go_simp
            refine (CA.out _ hHeld).mono ?_
            rintro e w8 ⟨rfl, hb8⟩
            refine hK.out _ _ (hHeld.below hb8) (fun hHeld => ?_)
            clear hK K
            try simp only [List.getElem_toArray, List.getElem_cons_zero, List.getElem_cons_succ, Act.put, List.setIfInBounds_toArray, List.set_cons_zero, List.set_cons_succ]
            refine wpAnyH_take (i := 12) (oi := _) (v := ?_) rfl (by kernel_rfl) (by kernel_rfl) (by kernel_rfl) (fun _ _ _ h => h) (Or.inl ⟨by rfl, ?_⟩) (by assumption) ?_
            rotate_left
            · (intro w hSw; (obtain ⟨⟨q0, q1, q2, q3, q4, q5, _, _, _, _, _, _⟩, ⟨r0, r1, r2, r3, r4, r5, _, _, _, _, _, _⟩⟩ := And.intro (BlkN.cells hSw.a) (BlkN.cells hSw.b)); go_simp; (try rw [beq_self_eq_true]); try with_reducible rfl)
            try simp only [List.getElem_toArray, List.getElem_cons_zero, List.getElem_cons_succ, Act.put, List.setIfInBounds_toArray, List.set_cons_zero, List.set_cons_succ]
            refine wpAnyH_take (i := 13) (oi := _) (v := ?_) rfl (by kernel_rfl) (by kernel_rfl) (by kernel_rfl) (fun _ _ _ h => h) (Or.inl ⟨by rfl, ?_⟩) (by assumption) ?_
            rotate_left
            · (intro w hSw; (obtain ⟨⟨q0, q1, q2, q3, q4, q5, _, _, _, _, _, _⟩, ⟨r0, r1, r2, r3, r4, r5, _, _, _, _, _, _⟩⟩ := And.intro (BlkN.cells hSw.a) (BlkN.cells hSw.b)); go_simp; try with_reducible rfl)
            try simp only [List.getElem_toArray, List.getElem_cons_zero, List.getElem_cons_succ, Act.put, List.setIfInBounds_toArray, List.set_cons_zero, List.set_cons_succ]
            refine wpAnyH_take (i := 14) (oi := _) (v := ?_) rfl (by kernel_rfl) (by kernel_rfl) (by kernel_rfl) (fun _ _ _ h => h) (Or.inl ⟨by rfl, ?_⟩) (by assumption) ?_
            rotate_left
            · (intro w hSw; (obtain ⟨⟨q0, q1, q2, q3, q4, q5, _, _, _, _, _, _⟩, ⟨r0, r1, r2, r3, r4, r5, _, _, _, _, _, _⟩⟩ := And.intro (BlkN.cells hSw.a) (BlkN.cells hSw.b)); go_simp; try with_reducible rfl)
            try simp only [List.getElem_toArray, List.getElem_cons_zero, List.getElem_cons_succ, Act.put, List.setIfInBounds_toArray, List.set_cons_zero, List.set_cons_succ]
            refine wpAnyH_take (i := 15) (oi := _) (v := ?_) rfl (by kernel_rfl) (by kernel_rfl) (by kernel_rfl) (fun _ _ _ h => h) (Or.inl ⟨by rfl, ?_⟩) (by assumption) ?_
            rotate_left
            · (intro w hSw; (obtain ⟨⟨q0, q1, q2, q3, q4, q5, _, _, _, _, _, _⟩, ⟨r0, r1, r2, r3, r4, r5, _, _, _, _, _, _⟩⟩ := And.intro (BlkN.cells hSw.a) (BlkN.cells hSw.b)); go_simp; try with_reducible rfl)
            try simp only [List.getElem_toArray, List.getElem_cons_zero, List.getElem_cons_succ, Act.put, List.setIfInBounds_toArray, List.set_cons_zero, List.set_cons_succ]
            refine wpAnyH_take (i := 16) (oi := _) (v := ?_) rfl (by kernel_rfl) (by kernel_rfl) (by kernel_rfl) (fun _ _ _ h => h) (Or.inl ⟨by rfl, ?_⟩) (by assumption) ?_
            rotate_left
            · (intro w hSw; (obtain ⟨⟨q0, q1, q2, q3, q4, q5, _, _, _, _, _, _⟩, ⟨r0, r1, r2, r3, r4, r5, _, _, _, _, _, _⟩⟩ := And.intro (BlkN.cells hSw.a) (BlkN.cells hSw.b)); go_simp; try with_reducible rfl)
            try simp only [List.getElem_toArray, List.getElem_cons_zero, List.getElem_cons_succ, Act.put, List.setIfInBounds_toArray, List.set_cons_zero, List.set_cons_succ]
            refine wpAnyH_done (by kernel_rfl) ?_ _
            have HB9 := Lib.hid hHeld.bel
            clear hHeld
            go_wp2_with fail
            go_ret
            exact ⟨ret_true (by simp), HB9.out⟩
          · obtain ⟨p, hp⟩ := hm (sgX (ks.take k))
            rw [← HTX.out] at hp
            obtain rfl := HRB.out.told hp
            have HB2 := Lib.hid HL2.out.bel
            clear hm hp HL2 HRB HN3 HXL HTX HT
            go_wp2_with fail
            generalize hwb : w3.alloc (.cells #[.int .i64 n3.op, .int .u64 n3.set.a, .int .u64 n3.set.b, .int .u64 n3.set.c, .int .u64 n3.set.d, .slice n3.kp n3.kn n3.kc] 28) = wc at *
            clear hwb
            refine wp_region_held_drew (S := fun w' => Below w.heap.size w w') (by kernel_rfl) (Below.drew HB2.out) (fun hHeld => ?_)
            refine wpAnyH_ready (rs := [0]) (by kernel_rfl) (by simp) ?_
            refine AllReadyH.cons (o := _) rfl (fun K hK => ?_) AllReadyH.nil
            go_simp
            refine (AW.out _).mono ?_
            rintro e w8 ⟨rfl, hb8⟩
            refine hK.out _ _ (Below.trans hHeld (hb8.mono hHeld.size)) (fun hHeld => ?_)
            clear hK K
            try simp only [List.getElem_toArray, List.getElem_cons_zero, List.getElem_cons_succ, Act.put, List.setIfInBounds_toArray, List.set_cons_zero, List.set_cons_succ]
            refine wpAnyH_take (i := 1) (oi := _) (v := ?_) rfl (by kernel_rfl) (by kernel_rfl) (by kernel_rfl) (fun _ _ _ h => h) (Or.inl ⟨by rfl, ?_⟩) (by assumption) ?_
            rotate_left
            · (intro w hSw; (try dsimp only at hSw); go_simp; try with_reducible rfl)
            try simp only [List.getElem_toArray, List.getElem_cons_zero, List.getElem_cons_succ, Act.put, List.setIfInBounds_toArray, List.set_cons_zero, List.set_cons_succ]
            refine wpAnyH_take (i := 2) (oi := _) (v := ?_) rfl (by kernel_rfl) (by kernel_rfl) (by kernel_rfl) (fun _ _ _ h => h) (Or.inl ⟨by rfl, ?_⟩) (by assumption) ?_
            rotate_left
            · (intro w hSw; (try dsimp only at hSw); go_simp; try with_reducible rfl)
            try simp only [List.getElem_toArray, List.getElem_cons_zero, List.getElem_cons_succ, Act.put, List.setIfInBounds_toArray, List.set_cons_zero, List.set_cons_succ]
            refine wpAnyH_take (i := 3) (oi := _) (v := ?_) rfl (by kernel_rfl) (by kernel_rfl) (by kernel_rfl) (fun _ _ _ h => h) (Or.inl ⟨by rfl, ?_⟩) (by assumption) ?_
            rotate_left
            · (intro w hSw; (try dsimp only at hSw); go_simp; try with_reducible rfl)
            try simp only [List.getElem_toArray, List.getElem_cons_zero, List.getElem_cons_succ, Act.put, List.setIfInBounds_toArray, List.set_cons_zero, List.set_cons_succ]
            refine wpAnyH_take (i := 4) (oi := _) (v := ?_) rfl (by kernel_rfl) (by kernel_rfl) (by kernel_rfl) (fun _ _ _ h => h) (Or.inl ⟨by rfl, ?_⟩) (by assumption) ?_
            rotate_left
            · (intro w hSw; (try dsimp only at hSw); go_simp; try with_reducible rfl)
            try simp only [List.getElem_toArray, List.getElem_cons_zero, List.getElem_cons_succ, Act.put, List.setIfInBounds_toArray, List.set_cons_zero, List.set_cons_succ]
            refine wpAnyH_take (i := 5) (oi := _) (v := undef) rfl (by kernel_rfl) (by kernel_rfl) (by kernel_rfl) (fun _ _ _ h => h) (Or.inr ⟨by rfl, rfl⟩) (by assumption) ?_
            try simp only [List.getElem_toArray, List.getElem_cons_zero, List.getElem_cons_succ, Act.put, List.setIfInBounds_toArray, List.set_cons_zero, List.set_cons_succ]
            refine wpAnyH_take (i := 6) (oi := _) (v := undef) rfl (by kernel_rfl) (by kernel_rfl) (by kernel_rfl) (fun _ _ _ h => h) (Or.inr ⟨by rfl, rfl⟩) (by assumption) ?_
            try simp only [List.getElem_toArray, List.getElem_cons_zero, List.getElem_cons_succ, Act.put, List.setIfInBounds_toArray, List.set_cons_zero, List.set_cons_succ]
            refine wpAnyH_take (i := 7) (oi := _) (v := undef) rfl (by kernel_rfl) (by kernel_rfl) (by kernel_rfl) (fun _ _ _ h => h) (Or.inr ⟨by rfl, rfl⟩) (by assumption) ?_
            try simp only [List.getElem_toArray, List.getElem_cons_zero, List.getElem_cons_succ, Act.put, List.setIfInBounds_toArray, List.set_cons_zero, List.set_cons_succ]
            refine wpAnyH_take (i := 8) (oi := _) (v := undef) rfl (by kernel_rfl) (by kernel_rfl) (by kernel_rfl) (fun _ _ _ h => h) (Or.inr ⟨by rfl, rfl⟩) (by assumption) ?_
            try simp only [List.getElem_toArray, List.getElem_cons_zero, List.getElem_cons_succ, Act.put, List.setIfInBounds_toArray, List.set_cons_zero, List.set_cons_succ]
            refine wpAnyH_take (i := 9) (oi := _) (v := undef) rfl (by kernel_rfl) (by kernel_rfl) (by kernel_rfl) (fun _ _ _ h => h) (Or.inr ⟨by rfl, rfl⟩) (by assumption) ?_
            try simp only [List.getElem_toArray, List.getElem_cons_zero, List.getElem_cons_succ, Act.put, List.setIfInBounds_toArray, List.set_cons_zero, List.set_cons_succ]
            refine wpAnyH_take (i := 10) (oi := _) (v := undef) rfl (by kernel_rfl) (by kernel_rfl) (by kernel_rfl) (fun _ _ _ h => h) (Or.inr ⟨by rfl, rfl⟩) (by assumption) ?_
            try simp only [List.getElem_toArray, List.getElem_cons_zero, List.getElem_cons_succ, Act.put, List.setIfInBounds_toArray, List.set_cons_zero, List.set_cons_succ]
            refine wpAnyH_take (i := 11) (oi := _) (v := undef) rfl (by kernel_rfl) (by kernel_rfl) (by kernel_rfl) (fun _ _ _ h => h) (Or.inr ⟨by rfl, rfl⟩) (by assumption) ?_
            try simp only [List.getElem_toArray, List.getElem_cons_zero, List.getElem_cons_succ, Act.put, List.setIfInBounds_toArray, List.set_cons_zero, List.set_cons_succ]
            refine wpAnyH_take (i := 12) (oi := _) (v := undef) rfl (by kernel_rfl) (by kernel_rfl) (by kernel_rfl) (fun _ _ _ h => h) (Or.inr ⟨by rfl, rfl⟩) (by assumption) ?_
            try simp only [List.getElem_toArray, List.getElem_cons_zero, List.getElem_cons_succ, Act.put, List.setIfInBounds_toArray, List.set_cons_zero, List.set_cons_succ]
            refine wpAnyH_take (i := 13) (oi := _) (v := undef) rfl (by kernel_rfl) (by kernel_rfl) (by kernel_rfl) (fun _ _ _ h => h) (Or.inr ⟨by rfl, rfl⟩) (by assumption) ?_
            try simp only [List.getElem_toArray, List.getElem_cons_zero, List.getElem_cons_succ, Act.put, List.setIfInBounds_toArray, List.set_cons_zero, List.set_cons_succ]
            refine wpAnyH_take (i := 14) (oi := _) (v := ?_) rfl (by kernel_rfl) (by kernel_rfl) (by kernel_rfl) (fun _ _ _ h => h) (Or.inl ⟨by rfl, ?_⟩) (by assumption) ?_
            rotate_left
            · (intro w hSw; (try dsimp only at hSw); go_simp; try with_reducible rfl)
            try simp only [List.getElem_toArray, List.getElem_cons_zero, List.getElem_cons_succ, Act.put, List.setIfInBounds_toArray, List.set_cons_zero, List.set_cons_succ]
            refine wpAnyH_take (i := 15) (oi := _) (v := ?_) rfl (by kernel_rfl) (by kernel_rfl) (by kernel_rfl) (fun _ _ _ h => h) (Or.inl ⟨by rfl, ?_⟩) (by assumption) ?_
            rotate_left
            · (intro w hSw; (try dsimp only at hSw); go_simp; try with_reducible rfl)
            try simp only [List.getElem_toArray, List.getElem_cons_zero, List.getElem_cons_succ, Act.put, List.setIfInBounds_toArray, List.set_cons_zero, List.set_cons_succ]
            refine wpAnyH_take (i := 16) (oi := _) (v := ?_) rfl (by kernel_rfl) (by kernel_rfl) (by kernel_rfl) (fun _ _ _ h => h) (Or.inl ⟨by rfl, ?_⟩) (by assumption) ?_
            rotate_left
            · (intro w hSw; (try dsimp only at hSw); go_simp; try with_reducible rfl)
            try simp only [List.getElem_toArray, List.getElem_cons_zero, List.getElem_cons_succ, Act.put, List.setIfInBounds_toArray, List.set_cons_zero, List.set_cons_succ]
            refine wpAnyH_done (by kernel_rfl) ?_ _
            have HB9 := Lib.hid hHeld
            clear hHeld
            go_wp2_with fail
            go_ret
            exact ⟨ret_true (by simp), HB9.out⟩
      · have hki : ¬ (k : Int) < (ks.length : Int) := by omega
        have hd1 : decide ((k : Int) < (ks.length : Int)) = false := by simpa using hlt
        clear hlt
        have PF := Lib.hid (rparse_ran T (by omega))
        have HXL := Lib.hid (show (sgX (ks.take k)).length ≤ 10 by unfold sgX; rw [List.length_map, List.length_take]; omega)
        clear hTs c0 c1 c2 c3 c4 c5 f0 f1 f2 f3 f4 f5
        go_wp2_with fail
        refine (PF.out _).mono ?_
        rintro e w3 ⟨n3, a3, er3, rfl, hra3, hb3⟩
        have HRB := Lib.hid hra3
        have HBd := Lib.hid (show Below wr.heap.size wr (w3.alloc (.cells #[.int .i64 n3.op, .int .u64 n3.set.a, .int .u64 n3.set.b, .int .u64 n3.set.c, .int .u64 n3.set.d, .slice n3.kp n3.kn n3.kc] 28)) from hb3.alloc hb3.size _)
        have HN3 := Lib.hid (show BlkN (w3.alloc (.cells #[.int .i64 n3.op, .int .u64 n3.set.a, .int .u64 n3.set.b, .int .u64 n3.set.c, .int .u64 n3.set.d, .slice n3.kp n3.kn n3.kc] 28)) w3.heap.size n3 from heap_alloc_new w3 _)
        have HL2 := Lib.hid (HO.out.below HBd.out)
        clear hra3 hb3 PF HBd HO
        unfold Nd.val
        rcases group_top HT.out with hm | hm
        · have hm1 := hm _ (sgX_sign (ks.take k))
          rw [← HTX.out] at hm1
          obtain ⟨rfl, HT3⟩ := HRB.out.full hm1
          have hTL := top_cost HT.out
          have hsl : s.data.toList.length = s.size := by simp
          have hsn := signs_len (sgX (ks.take k)) t
          have hxl := HXL.out
          obtain ⟨u, hu⟩ : ∃ u, signsT t (sgX (ks.take k)) = u := ⟨_, rfl⟩
          rw [hu] at HL2 HT3 hsn
          have HPL := Lib.hid (show (printL u).length ≤ 1000000 by omega)
          have HS := Lib.hid (show SgS w u g1 w3.heap.size n n3 (w3.alloc (.cells #[.int .i64 n3.op, .int .u64 n3.set.a, .int .u64 n3.set.b, .int .u64 n3.set.c, .int .u64 n3.set.d, .slice n3.kp n3.kn n3.kc] 28)) from ⟨HL2.out.blk, HN3.out, HL2.out.tree.kept (fun _ _ _ => rfl) (fun _ _ _ => trivial), HT3.below ((Below.refl _ _).alloc (Nat.le_refl _) _), HL2.out.bel⟩)
          clear hm hm1 hTL hsl hsn hxl hu HL2 HT3 HRB HN3 HXL HTX HT
          obtain ⟨V, hV⟩ : ∃ V : ByteArray, ⟨(printL u).toArray⟩ = V := ⟨_, rfl⟩
          have CA : Hid (∀ W, SgS w u g1 w3.heap.size n n3 W → Calls Try.prog 13 #[.agg #[.int .i64 n.op, .int .u64 n.set.a, .int .u64 n.set.b, .int .u64 n.set.c, .int .u64 n.set.d, .slice n.kp n.kn n.kc]] W fun e w' => e = .returned (.string V) ∧ Below W.heap.size W w') := Lib.hid fun W hW => by rw [← hV]; exact rPrint_any u n W _ hW.ta HPL.out
          have CB : Hid (∀ W, SgS w u g1 w3.heap.size n n3 W → Calls Try.prog 13 #[.agg #[.int .i64 n3.op, .int .u64 n3.set.a, .int .u64 n3.set.b, .int .u64 n3.set.c, .int .u64 n3.set.d, .slice n3.kp n3.kn n3.kc]] W fun e w' => e = .returned (.string V) ∧ Below W.heap.size W w') := Lib.hid fun W hW => by rw [← hV]; exact rPrint_any u n3 W _ hW.tb HPL.out
          clear hV HPL
          go_wp2_with fail
          generalize w3.heap.size = g4 at *
          generalize hwb : w3.alloc (.cells #[.int .i64 n3.op, .int .u64 n3.set.a, .int .u64 n3.set.b, .int .u64 n3.set.c, .int .u64 n3.set.d, .slice n3.kp n3.kn n3.kc] 28) = wc at *
          clear hwb
          refine wp_region_held_drew (S := fun w' => SgS w u g1 g4 n n3 w') (by kernel_rfl) (SgS.drew HS.out) (fun hHeld => ?_)
          refine wpAnyH_ready (rs := [0]) (by kernel_rfl) (by simp) ?_
          refine AllReadyH.cons (o := _) rfl (fun K hK => ?_) AllReadyH.nil
          go_simp
          refine (AW.out _).mono ?_
          rintro e w8 ⟨rfl, hb8⟩
          refine hK.out _ _ (hHeld.below hb8) (fun hHeld => ?_)
          clear hK K
          try simp only [List.getElem_toArray, List.getElem_cons_zero, List.getElem_cons_succ, Act.put, List.setIfInBounds_toArray, List.set_cons_zero, List.set_cons_succ]
          refine wpAnyH_take (i := 1) (oi := _) (v := ?_) rfl (by kernel_rfl) (by kernel_rfl) (by kernel_rfl) (fun _ _ _ h => h) (Or.inl ⟨by rfl, ?_⟩) (by assumption) ?_
          rotate_left
          · (intro w hSw; (obtain ⟨⟨q0, q1, q2, q3, q4, q5, _, _, _, _, _, _⟩, ⟨r0, r1, r2, r3, r4, r5, _, _, _, _, _, _⟩⟩ := And.intro (BlkN.cells hSw.a) (BlkN.cells hSw.b)); go_simp; try with_reducible rfl)
          try simp only [List.getElem_toArray, List.getElem_cons_zero, List.getElem_cons_succ, Act.put, List.setIfInBounds_toArray, List.set_cons_zero, List.set_cons_succ]
          refine wpAnyH_take (i := 2) (oi := _) (v := ?_) rfl (by kernel_rfl) (by kernel_rfl) (by kernel_rfl) (fun _ _ _ h => h) (Or.inl ⟨by rfl, ?_⟩) (by assumption) ?_
          rotate_left
          · (intro w hSw; (obtain ⟨⟨q0, q1, q2, q3, q4, q5, _, _, _, _, _, _⟩, ⟨r0, r1, r2, r3, r4, r5, _, _, _, _, _, _⟩⟩ := And.intro (BlkN.cells hSw.a) (BlkN.cells hSw.b)); go_simp; try with_reducible rfl)
          try simp only [List.getElem_toArray, List.getElem_cons_zero, List.getElem_cons_succ, Act.put, List.setIfInBounds_toArray, List.set_cons_zero, List.set_cons_succ]
          refine wpAnyH_take (i := 3) (oi := _) (v := ?_) rfl (by kernel_rfl) (by kernel_rfl) (by kernel_rfl) (fun _ _ _ h => h) (Or.inl ⟨by rfl, ?_⟩) (by assumption) ?_
          rotate_left
          · (intro w hSw; (obtain ⟨⟨q0, q1, q2, q3, q4, q5, _, _, _, _, _, _⟩, ⟨r0, r1, r2, r3, r4, r5, _, _, _, _, _, _⟩⟩ := And.intro (BlkN.cells hSw.a) (BlkN.cells hSw.b)); go_simp; try with_reducible rfl)
          try simp only [List.getElem_toArray, List.getElem_cons_zero, List.getElem_cons_succ, Act.put, List.setIfInBounds_toArray, List.set_cons_zero, List.set_cons_succ]
          refine wpAnyH_take (i := 4) (oi := _) (v := ?_) rfl (by kernel_rfl) (by kernel_rfl) (by kernel_rfl) (fun _ _ _ h => h) (Or.inl ⟨by rfl, ?_⟩) (by assumption) ?_
          rotate_left
          · (intro w hSw; (obtain ⟨⟨q0, q1, q2, q3, q4, q5, _, _, _, _, _, _⟩, ⟨r0, r1, r2, r3, r4, r5, _, _, _, _, _, _⟩⟩ := And.intro (BlkN.cells hSw.a) (BlkN.cells hSw.b)); go_simp; try with_reducible rfl)
          try simp only [List.getElem_toArray, List.getElem_cons_zero, List.getElem_cons_succ, Act.put, List.setIfInBounds_toArray, List.set_cons_zero, List.set_cons_succ]
          refine wpAnyH_take (i := 5) (oi := _) (v := ?_) rfl (by kernel_rfl) (by kernel_rfl) (by kernel_rfl) (fun _ _ _ h => h) (Or.inl ⟨by rfl, ?_⟩) (by assumption) ?_
          rotate_left
          · (intro w hSw; (obtain ⟨⟨q0, q1, q2, q3, q4, q5, _, _, _, _, _, _⟩, ⟨r0, r1, r2, r3, r4, r5, _, _, _, _, _, _⟩⟩ := And.intro (BlkN.cells hSw.a) (BlkN.cells hSw.b)); go_simp; try with_reducible rfl)
          try simp only [List.getElem_toArray, List.getElem_cons_zero, List.getElem_cons_succ, Act.put, List.setIfInBounds_toArray, List.set_cons_zero, List.set_cons_succ]
          refine wpAnyH_take (i := 6) (oi := _) (v := ?_) rfl (by kernel_rfl) (by kernel_rfl) (by kernel_rfl) (fun _ _ _ h => h) (Or.inl ⟨by rfl, ?_⟩) (by assumption) ?_
          rotate_left
          · (intro w hSw; (obtain ⟨⟨q0, q1, q2, q3, q4, q5, _, _, _, _, _, _⟩, ⟨r0, r1, r2, r3, r4, r5, _, _, _, _, _, _⟩⟩ := And.intro (BlkN.cells hSw.a) (BlkN.cells hSw.b)); go_simp; try with_reducible rfl)
          try simp only [List.getElem_toArray, List.getElem_cons_zero, List.getElem_cons_succ, Act.put, List.setIfInBounds_toArray, List.set_cons_zero, List.set_cons_succ]
          refine wpAnyH_take (i := 7) (oi := _) (v := ?_) rfl (by kernel_rfl) (by kernel_rfl) (by kernel_rfl) (fun _ _ _ h => h) (Or.inl ⟨by rfl, ?_⟩) (by assumption) ?_
          rotate_left
          · (intro w hSw; (obtain ⟨⟨q0, q1, q2, q3, q4, q5, _, _, _, _, _, _⟩, ⟨r0, r1, r2, r3, r4, r5, _, _, _, _, _, _⟩⟩ := And.intro (BlkN.cells hSw.a) (BlkN.cells hSw.b)); go_simp; try with_reducible rfl)
          try simp only [List.getElem_toArray, List.getElem_cons_zero, List.getElem_cons_succ, Act.put, List.setIfInBounds_toArray, List.set_cons_zero, List.set_cons_succ]
          refine wpAnyH_take (i := 8) (oi := _) (v := ?_) rfl (by kernel_rfl) (by kernel_rfl) (by kernel_rfl) (fun _ _ _ h => h) (Or.inl ⟨by rfl, ?_⟩) (by assumption) ?_
          rotate_left
          · (intro w hSw; (obtain ⟨⟨q0, q1, q2, q3, q4, q5, _, _, _, _, _, _⟩, ⟨r0, r1, r2, r3, r4, r5, _, _, _, _, _, _⟩⟩ := And.intro (BlkN.cells hSw.a) (BlkN.cells hSw.b)); go_simp; try with_reducible rfl)
          try simp only [List.getElem_toArray, List.getElem_cons_zero, List.getElem_cons_succ, Act.put, List.setIfInBounds_toArray, List.set_cons_zero, List.set_cons_succ]
          refine wpAnyH_take (i := 10) (oi := _) (v := ?_) rfl (by kernel_rfl) (by kernel_rfl) (by kernel_rfl) (fun _ _ _ h => h) (Or.inl ⟨by rfl, ?_⟩) (by assumption) ?_
          rotate_left
          · (intro w hSw; (obtain ⟨⟨q0, q1, q2, q3, q4, q5, _, _, _, _, _, _⟩, ⟨r0, r1, r2, r3, r4, r5, _, _, _, _, _, _⟩⟩ := And.intro (BlkN.cells hSw.a) (BlkN.cells hSw.b)); go_simp; try with_reducible rfl)
          try simp only [List.getElem_toArray, List.getElem_cons_zero, List.getElem_cons_succ, Act.put, List.setIfInBounds_toArray, List.set_cons_zero, List.set_cons_succ]
          refine wpAnyH_ready (rs := [9]) (by kernel_rfl) (by simp) ?_
          refine AllReadyH.cons (o := _) rfl (fun K hK => ?_) AllReadyH.nil
          go_simp
          refine (CB.out _ hHeld).mono ?_
          rintro e w8 ⟨rfl, hb8⟩
          refine hK.out _ _ (hHeld.below hb8) (fun hHeld => ?_)
          clear hK K
          try simp only [List.getElem_toArray, List.getElem_cons_zero, List.getElem_cons_succ, Act.put, List.setIfInBounds_toArray, List.set_cons_zero, List.set_cons_succ]
          refine wpAnyH_ready (rs := [11]) (by kernel_rfl) (by simp) ?_
          refine AllReadyH.cons (o := _) rfl (fun K hK => ?_) AllReadyH.nil
          go_simp
          refine (CA.out _ hHeld).mono ?_
          rintro e w8 ⟨rfl, hb8⟩
          refine hK.out _ _ (hHeld.below hb8) (fun hHeld => ?_)
          clear hK K
          try simp only [List.getElem_toArray, List.getElem_cons_zero, List.getElem_cons_succ, Act.put, List.setIfInBounds_toArray, List.set_cons_zero, List.set_cons_succ]
          refine wpAnyH_take (i := 12) (oi := _) (v := ?_) rfl (by kernel_rfl) (by kernel_rfl) (by kernel_rfl) (fun _ _ _ h => h) (Or.inl ⟨by rfl, ?_⟩) (by assumption) ?_
          rotate_left
          · (intro w hSw; (obtain ⟨⟨q0, q1, q2, q3, q4, q5, _, _, _, _, _, _⟩, ⟨r0, r1, r2, r3, r4, r5, _, _, _, _, _, _⟩⟩ := And.intro (BlkN.cells hSw.a) (BlkN.cells hSw.b)); go_simp; (try rw [beq_self_eq_true]); try with_reducible rfl)
          try simp only [List.getElem_toArray, List.getElem_cons_zero, List.getElem_cons_succ, Act.put, List.setIfInBounds_toArray, List.set_cons_zero, List.set_cons_succ]
          refine wpAnyH_take (i := 13) (oi := _) (v := ?_) rfl (by kernel_rfl) (by kernel_rfl) (by kernel_rfl) (fun _ _ _ h => h) (Or.inl ⟨by rfl, ?_⟩) (by assumption) ?_
          rotate_left
          · (intro w hSw; (obtain ⟨⟨q0, q1, q2, q3, q4, q5, _, _, _, _, _, _⟩, ⟨r0, r1, r2, r3, r4, r5, _, _, _, _, _, _⟩⟩ := And.intro (BlkN.cells hSw.a) (BlkN.cells hSw.b)); go_simp; try with_reducible rfl)
          try simp only [List.getElem_toArray, List.getElem_cons_zero, List.getElem_cons_succ, Act.put, List.setIfInBounds_toArray, List.set_cons_zero, List.set_cons_succ]
          refine wpAnyH_take (i := 14) (oi := _) (v := ?_) rfl (by kernel_rfl) (by kernel_rfl) (by kernel_rfl) (fun _ _ _ h => h) (Or.inl ⟨by rfl, ?_⟩) (by assumption) ?_
          rotate_left
          · (intro w hSw; (obtain ⟨⟨q0, q1, q2, q3, q4, q5, _, _, _, _, _, _⟩, ⟨r0, r1, r2, r3, r4, r5, _, _, _, _, _, _⟩⟩ := And.intro (BlkN.cells hSw.a) (BlkN.cells hSw.b)); go_simp; try with_reducible rfl)
          try simp only [List.getElem_toArray, List.getElem_cons_zero, List.getElem_cons_succ, Act.put, List.setIfInBounds_toArray, List.set_cons_zero, List.set_cons_succ]
          refine wpAnyH_take (i := 15) (oi := _) (v := ?_) rfl (by kernel_rfl) (by kernel_rfl) (by kernel_rfl) (fun _ _ _ h => h) (Or.inl ⟨by rfl, ?_⟩) (by assumption) ?_
          rotate_left
          · (intro w hSw; (obtain ⟨⟨q0, q1, q2, q3, q4, q5, _, _, _, _, _, _⟩, ⟨r0, r1, r2, r3, r4, r5, _, _, _, _, _, _⟩⟩ := And.intro (BlkN.cells hSw.a) (BlkN.cells hSw.b)); go_simp; try with_reducible rfl)
          try simp only [List.getElem_toArray, List.getElem_cons_zero, List.getElem_cons_succ, Act.put, List.setIfInBounds_toArray, List.set_cons_zero, List.set_cons_succ]
          refine wpAnyH_take (i := 16) (oi := _) (v := ?_) rfl (by kernel_rfl) (by kernel_rfl) (by kernel_rfl) (fun _ _ _ h => h) (Or.inl ⟨by rfl, ?_⟩) (by assumption) ?_
          rotate_left
          · (intro w hSw; (obtain ⟨⟨q0, q1, q2, q3, q4, q5, _, _, _, _, _, _⟩, ⟨r0, r1, r2, r3, r4, r5, _, _, _, _, _, _⟩⟩ := And.intro (BlkN.cells hSw.a) (BlkN.cells hSw.b)); go_simp; try with_reducible rfl)
          try simp only [List.getElem_toArray, List.getElem_cons_zero, List.getElem_cons_succ, Act.put, List.setIfInBounds_toArray, List.set_cons_zero, List.set_cons_succ]
          refine wpAnyH_done (by kernel_rfl) ?_ _
          have HB9 := Lib.hid hHeld.bel
          clear hHeld
          go_wp2_with fail
          go_ret
          exact ⟨ret_true (by simp), HB9.out⟩
        · obtain ⟨p, hp⟩ := hm (sgX (ks.take k))
          rw [← HTX.out] at hp
          obtain rfl := HRB.out.told hp
          have HB2 := Lib.hid HL2.out.bel
          clear hm hp HL2 HRB HN3 HXL HTX HT
          go_wp2_with fail
          generalize hwb : w3.alloc (.cells #[.int .i64 n3.op, .int .u64 n3.set.a, .int .u64 n3.set.b, .int .u64 n3.set.c, .int .u64 n3.set.d, .slice n3.kp n3.kn n3.kc] 28) = wc at *
          clear hwb
          refine wp_region_held_drew (S := fun w' => Below w.heap.size w w') (by kernel_rfl) (Below.drew HB2.out) (fun hHeld => ?_)
          refine wpAnyH_ready (rs := [0]) (by kernel_rfl) (by simp) ?_
          refine AllReadyH.cons (o := _) rfl (fun K hK => ?_) AllReadyH.nil
          go_simp
          refine (AW.out _).mono ?_
          rintro e w8 ⟨rfl, hb8⟩
          refine hK.out _ _ (Below.trans hHeld (hb8.mono hHeld.size)) (fun hHeld => ?_)
          clear hK K
          try simp only [List.getElem_toArray, List.getElem_cons_zero, List.getElem_cons_succ, Act.put, List.setIfInBounds_toArray, List.set_cons_zero, List.set_cons_succ]
          refine wpAnyH_take (i := 1) (oi := _) (v := ?_) rfl (by kernel_rfl) (by kernel_rfl) (by kernel_rfl) (fun _ _ _ h => h) (Or.inl ⟨by rfl, ?_⟩) (by assumption) ?_
          rotate_left
          · (intro w hSw; (try dsimp only at hSw); go_simp; try with_reducible rfl)
          try simp only [List.getElem_toArray, List.getElem_cons_zero, List.getElem_cons_succ, Act.put, List.setIfInBounds_toArray, List.set_cons_zero, List.set_cons_succ]
          refine wpAnyH_take (i := 2) (oi := _) (v := ?_) rfl (by kernel_rfl) (by kernel_rfl) (by kernel_rfl) (fun _ _ _ h => h) (Or.inl ⟨by rfl, ?_⟩) (by assumption) ?_
          rotate_left
          · (intro w hSw; (try dsimp only at hSw); go_simp; try with_reducible rfl)
          try simp only [List.getElem_toArray, List.getElem_cons_zero, List.getElem_cons_succ, Act.put, List.setIfInBounds_toArray, List.set_cons_zero, List.set_cons_succ]
          refine wpAnyH_take (i := 3) (oi := _) (v := ?_) rfl (by kernel_rfl) (by kernel_rfl) (by kernel_rfl) (fun _ _ _ h => h) (Or.inl ⟨by rfl, ?_⟩) (by assumption) ?_
          rotate_left
          · (intro w hSw; (try dsimp only at hSw); go_simp; try with_reducible rfl)
          try simp only [List.getElem_toArray, List.getElem_cons_zero, List.getElem_cons_succ, Act.put, List.setIfInBounds_toArray, List.set_cons_zero, List.set_cons_succ]
          refine wpAnyH_take (i := 4) (oi := _) (v := ?_) rfl (by kernel_rfl) (by kernel_rfl) (by kernel_rfl) (fun _ _ _ h => h) (Or.inl ⟨by rfl, ?_⟩) (by assumption) ?_
          rotate_left
          · (intro w hSw; (try dsimp only at hSw); go_simp; try with_reducible rfl)
          try simp only [List.getElem_toArray, List.getElem_cons_zero, List.getElem_cons_succ, Act.put, List.setIfInBounds_toArray, List.set_cons_zero, List.set_cons_succ]
          refine wpAnyH_take (i := 5) (oi := _) (v := undef) rfl (by kernel_rfl) (by kernel_rfl) (by kernel_rfl) (fun _ _ _ h => h) (Or.inr ⟨by rfl, rfl⟩) (by assumption) ?_
          try simp only [List.getElem_toArray, List.getElem_cons_zero, List.getElem_cons_succ, Act.put, List.setIfInBounds_toArray, List.set_cons_zero, List.set_cons_succ]
          refine wpAnyH_take (i := 6) (oi := _) (v := undef) rfl (by kernel_rfl) (by kernel_rfl) (by kernel_rfl) (fun _ _ _ h => h) (Or.inr ⟨by rfl, rfl⟩) (by assumption) ?_
          try simp only [List.getElem_toArray, List.getElem_cons_zero, List.getElem_cons_succ, Act.put, List.setIfInBounds_toArray, List.set_cons_zero, List.set_cons_succ]
          refine wpAnyH_take (i := 7) (oi := _) (v := undef) rfl (by kernel_rfl) (by kernel_rfl) (by kernel_rfl) (fun _ _ _ h => h) (Or.inr ⟨by rfl, rfl⟩) (by assumption) ?_
          try simp only [List.getElem_toArray, List.getElem_cons_zero, List.getElem_cons_succ, Act.put, List.setIfInBounds_toArray, List.set_cons_zero, List.set_cons_succ]
          refine wpAnyH_take (i := 8) (oi := _) (v := undef) rfl (by kernel_rfl) (by kernel_rfl) (by kernel_rfl) (fun _ _ _ h => h) (Or.inr ⟨by rfl, rfl⟩) (by assumption) ?_
          try simp only [List.getElem_toArray, List.getElem_cons_zero, List.getElem_cons_succ, Act.put, List.setIfInBounds_toArray, List.set_cons_zero, List.set_cons_succ]
          refine wpAnyH_take (i := 9) (oi := _) (v := undef) rfl (by kernel_rfl) (by kernel_rfl) (by kernel_rfl) (fun _ _ _ h => h) (Or.inr ⟨by rfl, rfl⟩) (by assumption) ?_
          try simp only [List.getElem_toArray, List.getElem_cons_zero, List.getElem_cons_succ, Act.put, List.setIfInBounds_toArray, List.set_cons_zero, List.set_cons_succ]
          refine wpAnyH_take (i := 10) (oi := _) (v := undef) rfl (by kernel_rfl) (by kernel_rfl) (by kernel_rfl) (fun _ _ _ h => h) (Or.inr ⟨by rfl, rfl⟩) (by assumption) ?_
          try simp only [List.getElem_toArray, List.getElem_cons_zero, List.getElem_cons_succ, Act.put, List.setIfInBounds_toArray, List.set_cons_zero, List.set_cons_succ]
          refine wpAnyH_take (i := 11) (oi := _) (v := undef) rfl (by kernel_rfl) (by kernel_rfl) (by kernel_rfl) (fun _ _ _ h => h) (Or.inr ⟨by rfl, rfl⟩) (by assumption) ?_
          try simp only [List.getElem_toArray, List.getElem_cons_zero, List.getElem_cons_succ, Act.put, List.setIfInBounds_toArray, List.set_cons_zero, List.set_cons_succ]
          refine wpAnyH_take (i := 12) (oi := _) (v := undef) rfl (by kernel_rfl) (by kernel_rfl) (by kernel_rfl) (fun _ _ _ h => h) (Or.inr ⟨by rfl, rfl⟩) (by assumption) ?_
          try simp only [List.getElem_toArray, List.getElem_cons_zero, List.getElem_cons_succ, Act.put, List.setIfInBounds_toArray, List.set_cons_zero, List.set_cons_succ]
          refine wpAnyH_take (i := 13) (oi := _) (v := undef) rfl (by kernel_rfl) (by kernel_rfl) (by kernel_rfl) (fun _ _ _ h => h) (Or.inr ⟨by rfl, rfl⟩) (by assumption) ?_
          try simp only [List.getElem_toArray, List.getElem_cons_zero, List.getElem_cons_succ, Act.put, List.setIfInBounds_toArray, List.set_cons_zero, List.set_cons_succ]
          refine wpAnyH_take (i := 14) (oi := _) (v := ?_) rfl (by kernel_rfl) (by kernel_rfl) (by kernel_rfl) (fun _ _ _ h => h) (Or.inl ⟨by rfl, ?_⟩) (by assumption) ?_
          rotate_left
          · (intro w hSw; (try dsimp only at hSw); go_simp; try with_reducible rfl)
          try simp only [List.getElem_toArray, List.getElem_cons_zero, List.getElem_cons_succ, Act.put, List.setIfInBounds_toArray, List.set_cons_zero, List.set_cons_succ]
          refine wpAnyH_take (i := 15) (oi := _) (v := ?_) rfl (by kernel_rfl) (by kernel_rfl) (by kernel_rfl) (fun _ _ _ h => h) (Or.inl ⟨by rfl, ?_⟩) (by assumption) ?_
          rotate_left
          · (intro w hSw; (try dsimp only at hSw); go_simp; try with_reducible rfl)
          try simp only [List.getElem_toArray, List.getElem_cons_zero, List.getElem_cons_succ, Act.put, List.setIfInBounds_toArray, List.set_cons_zero, List.set_cons_succ]
          refine wpAnyH_take (i := 16) (oi := _) (v := ?_) rfl (by kernel_rfl) (by kernel_rfl) (by kernel_rfl) (fun _ _ _ h => h) (Or.inl ⟨by rfl, ?_⟩) (by assumption) ?_
          rotate_left
          · (intro w hSw; (try dsimp only at hSw); go_simp; try with_reducible rfl)
          try simp only [List.getElem_toArray, List.getElem_cons_zero, List.getElem_cons_succ, Act.put, List.setIfInBounds_toArray, List.set_cons_zero, List.set_cons_succ]
          refine wpAnyH_done (by kernel_rfl) ?_ _
          have HB9 := Lib.hid hHeld
          clear hHeld
          go_wp2_with fail
          go_ret
          exact ⟨ret_true (by simp), HB9.out⟩
  · have h1b : ((er1 : Int) != 0) = true := by rw [bne_iff_ne]; omega
    have HB2 := HB1
    go_wp2_with fail
    refine (AW.out _).mono ?_
    rintro e w5 ⟨rfl, hb5⟩
    have HB5 := Lib.hid (HB2.out.trans (hb5.mono HB2.out.size))
    clear hb5
    go_wp2_with fail
    go_ret
    exact ⟨rfl, HB5.out⟩
end Go.Proofs.Ytgdalmdjbakbdaa
