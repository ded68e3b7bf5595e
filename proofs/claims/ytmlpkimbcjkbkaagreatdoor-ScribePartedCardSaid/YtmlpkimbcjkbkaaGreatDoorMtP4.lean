/-
  CONTRACT of layer 10's cat: one behind the other.
-/
import Derived.Test.YtmlpkimbcjkbkaaGreatDoorMtP3
import Derived.Deep.DeepCutAuto
namespace Go.Proofs.YtmlpkimbcjkbkaaGreatDoor
open Go.RowKit

set_option maxHeartbeats 16000000 in
set_option maxRecDepth 100000 in
theorem mcat_any (ks : List RT) (hPC : ∀ t ∈ ks, PieceC t) {w : World} {d : Bd} {n : Nat} {T B : Nat → Nat → Prop} {K : Nat → Prop} {kp : Option Addr} (kc : Nat) (hd : d.ok) (h : Bl w d n T B) (hk : KidsAt w K kp ks)
    (hK : ∀ g, K g → g < w.heap.size → ¬ d.own g ∧ g ≠ d.p) (hok : OkL ks) (hn : n + leavesN ks ≤ d.L) (hlen : ks.length ≤ 1000000) :
    Calls Tryz.prog 75 #[.pointer (some ⟨d.b, 0, none⟩), .slice kp ks.length kc] w (PcPost w d (n + leavesN ks) (fun c x => T c x ∨ TksL hasP ks n x c) (fun r x => B r x ∨ BhdC ks n r x) (empC ks) (FstC ks n) (LstC ks n)) := by
  have hdm := hd.m
  have hdL := hd.L
  have hlt := h.lt
  have CN : Hid (∀ Z, Below w.heap.size w Z → Calls Tryz.prog 74 #[.pointer (some ⟨d.b, 0, none⟩), .agg #[.bool true, .bool true, .bool true, .bool true]] Z fun e w' => ∃ gf gl, e = .returned (pcV d.m (fun _ => true) gf gl) ∧ Pc w' d.m Z.heap.size gf gl (fun _ _ => False) (fun _ _ => False) ∧ Below Z.heap.size Z w') := Lib.hid fun Z hZ => mnot_any hd (h.kept fun k _ hl => hZ.block k hl) (fun _ => true)
  obtain ⟨W1, hW1⟩ : ∃ W1, w.alloc (.cells #[.bool false, .bool false, .bool false, .bool false, .int .i64 0, .slice none 0 0, .int .i64 0, .slice none 0 0] 88) = W1 := ⟨_, rfl⟩
  have hb1 : Below w.heap.size w W1 := by rw [← hW1]; exact (Below.refl _ _).alloc (Nat.le_refl _) _
  have hz1 : W1.heap.size = w.heap.size + 1 := by rw [← hW1]; simp
  have hx1 : PcZ W1 w.heap.size := by rw [← hW1]; exact mt_heap_new _ _
  have HX1 := Lib.hid hx1
  have HB1 := Lib.hid hb1
  have HW1 := Lib.hid hW1
  have HBL := Lib.hid h
  have HD := Lib.hid hd
  have HKD := Lib.hid hk
  have HKN := Lib.hid hK
  have HOK := Lib.hid hok
  have HPC := Lib.hid hPC
  have HKL : Hid (leavesN ks + n ≤ d.L) := Lib.hid (by omega)
  clear h hx1 hb1 hW1 hd hk hK hok hPC hn
  go_enter Tryz.func75, Tryz.ntmps75
  go_wp2_with fail
  rw [HW1.out]
  clear HW1
  refine (meve_any W1).mono ?_
  rintro e w1 ⟨rfl, hb1⟩
  have HB1' : Hid (Below w.heap.size w w1) := Lib.hid (HB1.out.trans (hb1.mono (by omega)))
  have HX1' : Hid (PcZ w1 w.heap.size) := Lib.hid ((hb1.block _ (by omega)).trans HX1.out)
  have hz1' : w.heap.size + 1 ≤ w1.heap.size := by have := hb1.size; omega
  clear HB1 HX1 hb1 hz1
  unfold emV
  go_wp2_with fail
  refine (CN.out _ HB1'.out).mono ?_
  rintro e w2 ⟨gf, gl, rfl, hpc, hb2⟩
  have hz2 := hb2.size
  have hgf := hpc.f.lt
  have hgl := hpc.l.lt
  have hbf := hpc.bf
  have hbl := hpc.bl
  obtain ⟨W3, hW3⟩ : ∃ W3, w2.alloc (.cells #[.bool true, .bool true, .bool true, .bool true, .int .i64 (d.m : Int), .slice (some ⟨gf, 0, none⟩) (4 * d.m) (4 * d.m), .int .i64 (d.m : Int), .slice (some ⟨gl, 0, none⟩) (4 * d.m) (4 * d.m)] 88) = W3 := ⟨_, rfl⟩
  have hb3 : Below w2.heap.size w2 W3 := by rw [← hW3]; exact (Below.refl _ _).alloc (Nat.le_refl _) _
  have hz3 : W3.heap.size = w2.heap.size + 1 := by rw [← hW3]; simp
  have hB3 : Below w.heap.size w W3 := (HB1'.out.trans (hb2.mono (by omega))).trans (hb3.mono (by omega))
  have HI3 : Hid (AltI w d n T B (empC []) (FstC [] n) (LstC [] n) [] (BhdC [] n) w2.heap.size gf gl W3) := Lib.hid
    ⟨((hpc.next hb3).less (by omega)).congr (fun i x _ _ => by simp [FstC]) (fun i x _ _ => by simp [LstC]), PcB.congr (E := fun _ => true) (by rw [← hW3]; exact mt_heap_new _ _) (fun i _ => by simp [empC]),
      ((HBL.out.next hB3).congr (fun i x _ _ => by simp [TksL]) (fun i x _ _ => by simp [BhdC]) hdL), Chg.of_below hB3 (Nat.le_refl _), (hb3.block _ (by omega)).trans ((hb2.block _ (by omega)).trans HX1'.out), by omega, ⟨by omega, by omega⟩, ⟨by omega, by omega⟩⟩
  have HW3 := Lib.hid hW3
  clear hpc hb2 hb3 hW3 HX1' HB1' CN hB3
  unfold pcV
  go_wp2_with fail
  rw [HW3.out]
  clear HW3
  generalize w2.heap.size = gp at *
  clear hbf hbl hgf hgl hz2 hz3
  go_loopw [15] (fun iv wr => ∃ (j gf gl : Nat), j ≤ ks.length ∧ iv = .int .i64 (j : Int) ∧ Hid (AltI w d n T B (empC (ks.take j)) (FstC (ks.take j) n) (LstC (ks.take j) n) (ks.take j) (BhdC (ks.take j) n) gp gf gl wr)) (fun iv _ => ks.length - (intOf iv).toNat)
  case atStart => exact ⟨0, gf, gl, Nat.zero_le _, rfl, HI3⟩
  case round =>
    clear HI3
    obtain ⟨j, gf, gl, hj, rfl, HI⟩ := hrel
    by_cases hjl : j < ks.length
    · have hji : (j : Int) < (ks.length : Int) := by omega
      obtain ⟨t, ht⟩ : ∃ t, ks[j]? = some t := ⟨ks[j], List.getElem?_eq_getElem hjl⟩
      have htm : t ∈ ks := List.mem_of_getElem? ht
      obtain ⟨g, x, hkp, hKg, hgl9, hc6, htr⟩ := HKD.out j t ht
      have hng := HKN.out g hKg hgl9
      have HTK : Hid (ks.take (j + 1) = ks.take j ++ [t]) := Lib.hid (by rw [List.take_add_one, ht]; rfl)
      have HLV : Hid (n + leavesN (ks.take j) + leafN t ≤ d.L ∧ leavesN (ks.take j ++ [t]) = leavesN (ks.take j) + leafN t) := Lib.hid (by
        have h1 := leavesN_snoc t (ks.take j)
        have h2 : leavesN (ks.take (j + 1)) ≤ leavesN ks := by
          conv => rhs; rw [← List.take_append_drop (j + 1) ks]
          rw [leavesN_append]; omega
        rw [HTK.out, h1] at h2
        exact ⟨by have := HKL.out; omega, h1⟩)
      have hcw : Cells6 wr g (j * 6) x := hc6.kept (HI.out.chg.block g hgl9 hng.1)
      have HTR : Hid (TreeN wr (fun g => K g ∧ g < w.heap.size) t x) := Lib.hid (htr.kept (fun g hg hl => HI.out.chg.block g hl (HKN.out g hg hl).1) (fun g hg hl => ⟨hg, hl⟩))
      have HPt := Lib.hid (HPC.out t htm)
      have HOt := Lib.hid (HOK.out.mem t htm)
      have HTM := Lib.hid ht
      obtain ⟨k0, k1, k2, k3, k4, k5⟩ := hcw
      subst hkp
      have hw9 := HI.out.chg.size
      obtain ⟨W5, hW5⟩ : ∃ x, x = wr := ⟨_, rfl⟩
      subst hW5
      clear ht htm hKg hc6 htr
      obtain ⟨W6, hW6⟩ : ∃ W6, W5.alloc (.cells #[.int .i64 x.op, .int .u64 x.set.a, .int .u64 x.set.b, .int .u64 x.set.c, .int .u64 x.set.d, .slice x.kp x.kn x.kc] 45) = W6 := ⟨_, rfl⟩
      have hb6 : Below W5.heap.size W5 W6 := by rw [← hW6]; exact (Below.refl _ _).alloc (Nat.le_refl _) _
      have HB6 := Lib.hid hb6
      have HW6 := Lib.hid hW6
      have hz6 := hb6.size
      have CP : Hid (Calls Tryz.prog 37 #[.pointer (some ⟨d.b, 0, none⟩), .agg #[.int .i64 x.op, .int .u64 x.set.a, .int .u64 x.set.b, .int .u64 x.set.c, .int .u64 x.set.d, .slice x.kp x.kn x.kc]] W6 (PcPost W6 d (n + leavesN (ks.take j) + leafN t) (fun c x => (T c x ∨ TksL hasP (ks.take j) n x c) ∨ Tks hasP t (n + leavesN (ks.take j)) x c) (fun r x => (B r x ∨ BhdC (ks.take j) n r x) ∨ Bhd t (n + leavesN (ks.take j)) r x) (emp t) (Fst t (n + leavesN (ks.take j))) (Lst t (n + leavesN (ks.take j))))) := Lib.hid
        (HPt.out W6 d _ _ _ x (fun g => K g ∧ g < w.heap.size) HD.out (HI.out.bl.next hb6) (HTR.out.kept (fun g _ hl => hb6.block g hl) (fun g hg _ => hg)) (fun g hg _ => HKN.out g hg.1 hg.2) HOt.out HLV.out.1)
      clear hb6 hW6 HPt HOt HTR
      go_wp2_with fail
      rw [HW6.out]
      clear HW6
      refine CP.out.mono ?_
      rintro e w7 ⟨gf2, gl2, rfl, hpc2, hbl2, hch2⟩
      have HBL7 := Lib.hid hbl2
      have HPK7 := Lib.hid hpc2
      have hz7 := hch2.size
      have hpf := HI.out.pc
      have hgpl := HI.out.gpl
      have hnf := HI.out.nf
      have hnl := HI.out.nl
      have hne := hpf.ne
      have hbf := hpf.bf
      have hbl := hpf.bl
      have hgf5 := hpf.f.lt
      have hgl5 := hpf.l.lt
      have hgp5 := HI.out.pb.lt
      have hbf2 := hpc2.bf
      have hbl2' := hpc2.bl
      have hgf7 := hpc2.f.lt
      have hgl7 := hpc2.l.lt
      have hne2 := hpc2.ne
      have hown : ∀ k, w.heap.size ≤ k → ¬ d.own k := fun k hk hc => by rcases hc with rfl | rfl | rfl | rfl <;> omega
      have HCH7 : Hid (Chg d.own w w7) := Lib.hid ((HI.out.chg.then (Chg.of_below HB6.out (Nat.le_refl _))).then (hch2))
      have hk57 : ∀ k, w.heap.size ≤ k → k < W5.heap.size → w7.heap[k]? = W5.heap[k]? := fun k h1 h2 => (hch2.block k (by omega) (hown k h1)).trans (HB6.out.block k h2)
      have HPF7 : Hid (Tb w7 gf 4 d.m (FstC (ks.take j) n)) := Lib.hid (hpf.f.kept (hk57 gf hbf hgf5))
      have HPG7 : Hid (Tb w7 gl 4 d.m (LstC (ks.take j) n)) := Lib.hid (hpf.l.kept (hk57 gl hbl hgl5))
      have HPB7 : Hid (PcB w7 gp d.m (empC (ks.take j)) gf gl) := Lib.hid (HI.out.pb.kept (hk57 gp (by omega) hgp5))
      have HRZ7 : Hid (PcZ w7 w.heap.size) := Lib.hid (HI.out.rz.kept (hk57 _ (Nat.le_refl _) (by omega)))
      obtain ⟨W8, hW8⟩ : ∃ W8, w7.alloc (.cells #[.bool (emp t 0), .bool (emp t 1), .bool (emp t 2), .bool (emp t 3), .int .i64 (d.m : Int), .slice (some ⟨gf2, 0, none⟩) (4 * d.m) (4 * d.m), .int .i64 (d.m : Int), .slice (some ⟨gl2, 0, none⟩) (4 * d.m) (4 * d.m)] 88) = W8 := ⟨_, rfl⟩
      have hb8 : Below w7.heap.size w7 W8 := by rw [← hW8]; exact (Below.refl _ _).alloc (Nat.le_refl _) _
      have hz8 : W8.heap.size = w7.heap.size + 1 := by rw [← hW8]; simp
      have HK8 : Hid (PcB W8 w7.heap.size d.m (emp t) gf2 gl2) := Lib.hid (by rw [← hW8]; exact mt_heap_new _ _)
      have HB8 := Lib.hid hb8
      have HW8 := Lib.hid hW8
      have HF8 := Lib.hid (HPF7.out.next hb8)
      have HG8 := Lib.hid (HPG7.out.next hb8)
      have HPB8 : Hid (PcB W8 gp d.m (empC (ks.take j)) gf gl) := Lib.hid (HPB7.out.kept (hb8.block gp (by omega)))
      have HRZ8 : Hid (PcZ W8 w.heap.size) := Lib.hid (HRZ7.out.kept (hb8.block _ (by omega)))
      have HF28 := Lib.hid (HPK7.out.f.next hb8)
      have HG28 := Lib.hid (HPK7.out.l.next hb8)
      have HBL8 := Lib.hid (HBL7.out.next hb8)
      have HCH8 : Hid (Chg d.own w W8) := Lib.hid (HCH7.out.then (Chg.of_below hb8 (Nat.le_refl _)))
      clear hbl2 hpc2 hch2 hpf hk57 hb8 hW8 HPF7 HPG7 HPB7 HRZ7 HPK7 HBL7 HCH7 HI HB6 CP
      unfold pcV
      obtain ⟨E, hE⟩ : ∃ E, empC (ks.take j) = E := ⟨_, rfl⟩
      obtain ⟨F, hF⟩ : ∃ F, FstC (ks.take j) n = F := ⟨_, rfl⟩
      obtain ⟨G, hG⟩ : ∃ G, LstC (ks.take j) n = G := ⟨_, rfl⟩
      obtain ⟨n2, hn2⟩ : ∃ n2, n + leavesN (ks.take j) = n2 := ⟨_, rfl⟩
      obtain ⟨E2, hE2⟩ : ∃ E2, emp t = E2 := ⟨_, rfl⟩
      rw [hn2] at HF28 HG28 HBL8
      obtain ⟨F2, hF2⟩ : ∃ F2, Fst t n2 = F2 := ⟨_, rfl⟩
      obtain ⟨G2, hG2⟩ : ∃ G2, Lst t n2 = G2 := ⟨_, rfl⟩
      rw [hE2] at HK8 HW8 ⊢
      rw [hE] at HPB8
      rw [hF] at HF8
      rw [hG] at HG8
      rw [hF2] at HF28
      rw [hG2] at HG28
      have HDF := Lib.hid (And.intro hE (And.intro hF (And.intro hG (And.intro hn2 (And.intro hE2 (And.intro hF2 hG2))))))
      clear hE hF hG hn2 hE2 hF2 hG2
      go_upto_region 6 with fail
      rw [HW8.out]
      clear HW8
      obtain ⟨gk, hgk⟩ : ∃ gk, w7.heap.size = gk := ⟨_, rfl⟩
      rw [hgk] at HK8 hz8 hz7 hgf7 hgl7 ⊢
      clear hgk
      have CLK : Hid (Calls Tryz.prog 76 #[.pointer (some ⟨d.b, 0, none⟩), .agg #[.bool (E 0), .bool (E 1), .bool (E 2), .bool (E 3), .int .i64 (d.m : Int), .slice (some ⟨gf, 0, none⟩) (4 * d.m) (4 * d.m), .int .i64 (d.m : Int), .slice (some ⟨gl, 0, none⟩) (4 * d.m) (4 * d.m)], .agg #[.bool (E2 0), .bool (E2 1), .bool (E2 2), .bool (E2 3), .int .i64 (d.m : Int), .slice (some ⟨gf2, 0, none⟩) (4 * d.m) (4 * d.m), .int .i64 (d.m : Int), .slice (some ⟨gl2, 0, none⟩) (4 * d.m) (4 * d.m)]] W8 fun e w' => e = .returned (.tuple #[]) ∧ Bl w' d (n2 + leafN t) (fun c x => (T c x ∨ TksL hasP (ks.take j) n x c) ∨ Tks hasP t n2 x c) (fun r x => ((B r x ∨ BhdC (ks.take j) n r x) ∨ Bhd t n2 r x) ∨ (G 0 r ∧ F2 0 x)) ∧ Chg (fun k => k = d.a ∨ k = d.h) W8 w') := Lib.hid
        (mlink_any HD.out HBL8.out (E := E) (E2 := E2) (gf := gf) (gl2 := gl2) HG8.out HF28.out ⟨by omega, by omega, by omega, by omega⟩ (fun x hx => by
          have h1 := HDF.out.2.2.1
          rw [← h1] at hx
          have := LstC.range _ _ _ _ hx
          have := HLV.out.1
          omega) (fun x hx => by
          have h1 := HDF.out.2.2.2.2.2.1
          rw [← h1] at hx
          have := Fst.range _ _ _ _ hx
          have h2 := HDF.out.2.2.2.1
          have := HLV.out.1
          omega))
      have a0 : W8.cell? ⟨gp, 0, none⟩ = some (.bool (E 0)) := rg_cell HPB8.out
      have a1 : W8.cell? ⟨gp, 1, none⟩ = some (.bool (E 1)) := rg_cell HPB8.out
      have a2 : W8.cell? ⟨gp, 2, none⟩ = some (.bool (E 2)) := rg_cell HPB8.out
      have a3 : W8.cell? ⟨gp, 3, none⟩ = some (.bool (E 3)) := rg_cell HPB8.out
      have a4 : W8.cell? ⟨gp, 4, none⟩ = some (.int .i64 (d.m : Int)) := rg_cell HPB8.out
      have a5 : W8.cell? ⟨gp, 5, none⟩ = some (.slice (some ⟨gf, 0, none⟩) (4 * d.m) (4 * d.m)) := rg_cell HPB8.out
      have a6 : W8.cell? ⟨gp, 6, none⟩ = some (.int .i64 (d.m : Int)) := rg_cell HPB8.out
      have a7 : W8.cell? ⟨gp, 7, none⟩ = some (.slice (some ⟨gl, 0, none⟩) (4 * d.m) (4 * d.m)) := rg_cell HPB8.out
      have b0 : W8.cell? ⟨gk, 0, none⟩ = some (.bool (E2 0)) := rg_cell HK8.out
      have b1 : W8.cell? ⟨gk, 1, none⟩ = some (.bool (E2 1)) := rg_cell HK8.out
      have b2 : W8.cell? ⟨gk, 2, none⟩ = some (.bool (E2 2)) := rg_cell HK8.out
      have b3 : W8.cell? ⟨gk, 3, none⟩ = some (.bool (E2 3)) := rg_cell HK8.out
      have b4 : W8.cell? ⟨gk, 4, none⟩ = some (.int .i64 (d.m : Int)) := rg_cell HK8.out
      have b5 : W8.cell? ⟨gk, 5, none⟩ = some (.slice (some ⟨gf2, 0, none⟩) (4 * d.m) (4 * d.m)) := rg_cell HK8.out
      have b6 : W8.cell? ⟨gk, 6, none⟩ = some (.int .i64 (d.m : Int)) := rg_cell HK8.out
      have b7 : W8.cell? ⟨gk, 7, none⟩ = some (.slice (some ⟨gl2, 0, none⟩) (4 * d.m) (4 * d.m)) := rg_cell HK8.out
      go_wp2_with fail
      refine CLK.out.mono ?_
      rintro e W9 ⟨rfl, hbl9, hch9⟩
      have hna : ∀ k, w.heap.size ≤ k → ¬ (k = d.a ∨ k = d.h) := fun k hk hc => by rcases hc with rfl | rfl <;> omega
      have hz9 := hch9.size
      have HBL9 := Lib.hid hbl9
      have HF9 := Lib.hid (HF8.out.chg hch9 (hna _ (by omega)))
      have HG9 := Lib.hid (HG8.out.chg hch9 (hna _ (by omega)))
      have HF29 := Lib.hid (HF28.out.chg hch9 (hna _ (by omega)))
      have HG29 := Lib.hid (HG28.out.chg hch9 (hna _ (by omega)))
      have HPB9 : Hid (PcB W9 gp d.m E gf gl) := Lib.hid (HPB8.out.kept (hch9.block gp (by omega) (hna _ (by omega))))
      have HK9 : Hid (PcB W9 gk d.m E2 gf2 gl2) := Lib.hid (HK8.out.kept (hch9.block gk (by omega) (hna _ (by omega))))
      have HRZ9 : Hid (PcZ W9 w.heap.size) := Lib.hid (HRZ8.out.kept (hch9.block _ (by omega) (hna _ (by omega))))
      have HCH9 : Hid (Chg d.own w W9) := Lib.hid (HCH8.out.trans hch9 (fun k _ h => by rcases h with rfl | rfl; exact .inr (.inr (.inl rfl)); exact .inr (.inr (.inr rfl))))
      clear hbl9 hch9 HF8 HG8 HF28 HG28 HPB8 HK8 HRZ8 HCH8 HBL8 CLK a0 a1 a2 a3 a4 a5 a6 a7 b0 b1 b2 b3 b4 b5 b6 b7
      go_wp2_with fail
      go_loopw [26] (fun iv wr => ∃ i : Nat, i ≤ 4 ∧ iv = .int .i64 (i : Int) ∧ Hid (Tb wr gf 4 d.m (fun r x => F r x ∨ (r < i ∧ E r = true ∧ F2 r x)) ∧ Tb wr gl2 4 d.m (fun r x => G2 r x ∨ (r < i ∧ E2 r = true ∧ G r x)) ∧ PcB wr gp d.m (fun r => if r < i then E r && E2 r else E r) gf gl ∧ Chg (fun k => k = gf ∨ k = gl2 ∨ k = gp) W9 wr)) (fun iv _ => 4 - (intOf iv).toNat)
      case atStart => exact ⟨0, Nat.zero_le _, rfl, Lib.hid ⟨HF9.out.congr (fun r x _ _ => by simp), HG29.out.congr (fun r x _ _ => by simp), HPB9.out.congr (fun r _ => by simp), Chg.refl _ _⟩⟩
      case round =>
        clear HF9 HG29 HPB9
        obtain ⟨i, hi, rfl, HR⟩ := hrel
        by_cases hi4 : i < 4
        · have hii : (i : Int) < 4 := by omega
          have hi0 : 0 ≤ (i : Int) := by omega
          have HPr := Lib.hid HR.out.2.2.1
          have c1 : wr.cell? ⟨gp, i, none⟩ = some (.bool (E i)) := by
            rw [pc_cell HPr.out i hi4]; simp
          have HKr : Hid (PcB wr gk d.m E2 gf2 gl2) := Lib.hid ((HR.out.2.2.2.block gk HK9.out.lt (by omega)).trans HK9.out)
          have c2 : wr.cell? ⟨gk, i, none⟩ = some (.bool (E2 i)) := pc_cell HKr.out i hi4
          have HFr := Lib.hid HR.out.1
          have HG2r := Lib.hid HR.out.2.1
          have HF2r : Hid (Tb wr gf2 4 d.m F2) := Lib.hid (HF29.out.chg HR.out.2.2.2 (by omega))
          have HGr : Hid (Tb wr gl 4 d.m G) := Lib.hid (HG9.out.chg HR.out.2.2.2 (by omega))
          have HCr := Lib.hid HR.out.2.2.2
          clear HR
          obtain ⟨b1, hb1⟩ : ∃ b, E i = b := ⟨_, rfl⟩
          obtain ⟨b2, hb2⟩ : ∃ b, E2 i = b := ⟨_, rfl⟩
          rw [hb1] at c1
          rw [hb2] at c2
          have HB12 := Lib.hid (And.intro hb1 hb2)
          clear hb1 hb2
          cases b1
          · have HTA2 : Hid (Tb wr gf 4 d.m (fun r x => F r x ∨ (r < i + 1 ∧ E r = true ∧ F2 r x))) := Lib.hid (HFr.out.congr fun r x _ _ => by
              by_cases hr : r = i
              · subst hr; simp [HB12.out.1]
              · have : r < i ↔ r < i + 1 := by omega
                simp only [this])
            clear HFr HF2r
            cases b2
            · have HTB2 : Hid (Tb wr gl2 4 d.m (fun r x => G2 r x ∨ (r < i + 1 ∧ E2 r = true ∧ G r x))) := Lib.hid (HG2r.out.congr fun r x _ _ => by
                by_cases hr : r = i
                · subst hr; simp [HB12.out.2]
                · have : r < i ↔ r < i + 1 := by omega
                  simp only [this])
              clear HG2r
              have f1 : wr.frozen? ⟨gp, i, none⟩ = false := rg_frozen HPr.out
              have HN : Hid (Tb (wr.setCell ⟨gp, i, none⟩ (.bool false)) gf 4 d.m (fun r x => F r x ∨ (r < i + 1 ∧ E r = true ∧ F2 r x)) ∧ Tb (wr.setCell ⟨gp, i, none⟩ (.bool false)) gl2 4 d.m (fun r x => G2 r x ∨ (r < i + 1 ∧ E2 r = true ∧ G r x)) ∧ PcB (wr.setCell ⟨gp, i, none⟩ (.bool false)) gp d.m (fun r => if r < i + 1 then E r && E2 r else E r) gf gl ∧ Chg (fun k => k = gf ∨ k = gl2 ∨ k = gp) W9 (wr.setCell ⟨gp, i, none⟩ (.bool false))) := Lib.hid (by
                have ho : Onl gp wr (wr.setCell ⟨gp, i, none⟩ (.bool false)) := (Onl.refl _ _).setCell _ _
                refine ⟨HTA2.out.onl ho (by omega), HTB2.out.onl ho (by omega), (pc_set HPr.out i hi4 _).congr (fun r _ => ?_), HCr.out.then (Chg.of_onl ho (fun _ => .inr (.inr rfl)))⟩
                by_cases hr : r = i
                · subst hr; simp [HB12.out.1, HB12.out.2]
                · rw [if_neg hr]
                  have : r < i ↔ r < i + 1 := by omega
                  simp only [this])
              clear HTA2 HTB2 HPr HKr HCr
              go_wp2_with fail
              refine ⟨⟨i + 1, by omega, by simp, HN⟩, ?_⟩
              simp [intOf]; omega
            · go_upto_region 13 with fail
              have HSKBr : Hid (∀ Z, Onl gl2 wr Z → Z.cell? ⟨gp, 4, none⟩ = some (.int .i64 (d.m : Int)) ∧ Z.cell? ⟨gp, 5, none⟩ = some (.slice (some ⟨gf, 0, none⟩) (4 * d.m) (4 * d.m)) ∧ Z.cell? ⟨gp, 6, none⟩ = some (.int .i64 (d.m : Int)) ∧ Z.cell? ⟨gp, 7, none⟩ = some (.slice (some ⟨gl, 0, none⟩) (4 * d.m) (4 * d.m)) ∧ Z.cell? ⟨gk, 4, none⟩ = some (.int .i64 (d.m : Int)) ∧ Z.cell? ⟨gk, 5, none⟩ = some (.slice (some ⟨gf2, 0, none⟩) (4 * d.m) (4 * d.m)) ∧ Z.cell? ⟨gk, 6, none⟩ = some (.int .i64 (d.m : Int)) ∧ Z.cell? ⟨gk, 7, none⟩ = some (.slice (some ⟨gl2, 0, none⟩) (4 * d.m) (4 * d.m))) := Lib.hid fun Z hZ => by
                have e1 := (hZ.block gp HPr.out.lt (by omega)).trans HPr.out
                have e2 := (hZ.block gk HKr.out.lt (by omega)).trans HKr.out
                exact ⟨rg_cell e1, rg_cell e1, rg_cell e1, rg_cell e1, rg_cell e2, rg_cell e2, rg_cell e2, rg_cell e2⟩
              have CR1Br : Hid (∀ Z, Calls Tryz.prog 41 #[.agg #[.int .i64 (d.m : Int), .slice (some ⟨gl2, 0, none⟩) (4 * d.m) (4 * d.m)], .int .i64 (i : Int)] Z fun e w' => e = .returned (.slice (some ⟨gl2, rwO 4 d.m i, none⟩) d.m (4 * d.m - i * d.m)) ∧ Below Z.heap.size Z w') := Lib.hid fun Z =>
                (mrow_any gl2 4 d.m i hi4 (by omega) (by omega) Z).mono fun e w' ⟨h1, h2⟩ => ⟨h1, by rw [h2]; exact (Below.refl _ _).alloc (Nat.le_refl _) _⟩
              have CR2Br : Hid (∀ Z, Calls Tryz.prog 41 #[.agg #[.int .i64 (d.m : Int), .slice (some ⟨gl, 0, none⟩) (4 * d.m) (4 * d.m)], .int .i64 (i : Int)] Z fun e w' => e = .returned (.slice (some ⟨gl, rwO 4 d.m i, none⟩) d.m (4 * d.m - i * d.m)) ∧ Below Z.heap.size Z w') := Lib.hid fun Z =>
                (mrow_any gl 4 d.m i hi4 (by omega) (by omega) Z).mono fun e w' ⟨h1, h2⟩ => ⟨h1, by rw [h2]; exact (Below.refl _ _).alloc (Nat.le_refl _) _⟩
              have CJBr : Hid (∀ Z, Below wr.heap.size wr Z → Calls Tryz.prog 40 #[.slice (some ⟨gl2, rwO 4 d.m i, none⟩) d.m (4 * d.m - i * d.m), .slice (some ⟨gl, rwO 4 d.m i, none⟩) d.m (4 * d.m - i * d.m)] Z fun e w' => e = .returned (.tuple #[]) ∧ Tb w' gl2 4 d.m (fun r x => (G2 r x ∨ (r < i ∧ E2 r = true ∧ G r x)) ∨ (r = i ∧ G i x)) ∧ Sm gl2 Z w') := Lib.hid fun Z hZ =>
                mjoin_any (HG2r.out.next hZ) (HGr.out.next hZ) (by omega) hi4 hi4 (by omega) (fun h => rwO_eq hi4 h) (fun h => rwO_eq hi4 h) _ _
              have HHBr := HSKBr.out _ (Onl.of_below (drew_below wr) (Nat.le_refl _))
              go_wp2_with fail
              refine wp_region_L (st := []) (S := fun Z => Z.cell? ⟨gp, 4, none⟩ = some (.int .i64 (d.m : Int)) ∧ Z.cell? ⟨gp, 5, none⟩ = some (.slice (some ⟨gf, 0, none⟩) (4 * d.m) (4 * d.m)) ∧ Z.cell? ⟨gp, 6, none⟩ = some (.int .i64 (d.m : Int)) ∧ Z.cell? ⟨gp, 7, none⟩ = some (.slice (some ⟨gl, 0, none⟩) (4 * d.m) (4 * d.m)) ∧ Z.cell? ⟨gk, 4, none⟩ = some (.int .i64 (d.m : Int)) ∧ Z.cell? ⟨gk, 5, none⟩ = some (.slice (some ⟨gf2, 0, none⟩) (4 * d.m) (4 * d.m)) ∧ Z.cell? ⟨gk, 6, none⟩ = some (.int .i64 (d.m : Int)) ∧ Z.cell? ⟨gk, 7, none⟩ = some (.slice (some ⟨gl2, 0, none⟩) (4 * d.m) (4 * d.m))) (by kernel_rfl) HHBr (fun hHeld => ?_)
              have HV8 := Lib.hid (drew_below wr)
              clear HHBr
              refine tkL 0 (v := ?_) rfl ?_ ?_
              rotate_left
              · (intro w hSw; obtain ⟨q0, q1, q2, q3, q4, q5, q6, q7⟩ := hSw; go_simp; try with_reducible rfl)
              try simp only [nrm]
              refine tkL 1 (v := ?_) rfl ?_ ?_
              rotate_left
              · (intro w hSw; obtain ⟨q0, q1, q2, q3, q4, q5, q6, q7⟩ := hSw; go_simp; try with_reducible rfl)
              try simp only [nrm]
              refine tkL 2 (v := ?_) rfl ?_ ?_
              rotate_left
              · (intro w hSw; obtain ⟨q0, q1, q2, q3, q4, q5, q6, q7⟩ := hSw; go_simp; try with_reducible rfl)
              try simp only [nrm]
              refine tkL 4 (v := ?_) rfl ?_ ?_
              rotate_left
              · (intro w hSw; obtain ⟨q0, q1, q2, q3, q4, q5, q6, q7⟩ := hSw; go_simp; try with_reducible rfl)
              try simp only [nrm]
              refine tkL 5 (v := ?_) rfl ?_ ?_
              rotate_left
              · (intro w hSw; obtain ⟨q0, q1, q2, q3, q4, q5, q6, q7⟩ := hSw; go_simp; try with_reducible rfl)
              try simp only [nrm]
              refine tkL 6 (v := ?_) rfl ?_ ?_
              rotate_left
              · (intro w hSw; obtain ⟨q0, q1, q2, q3, q4, q5, q6, q7⟩ := hSw; go_simp; try with_reducible rfl)
              try simp only [nrm]
              refine rdL 3 rfl (fun K hK => ?_)
              go_simp
              refine (CR1Br.out _).mono ?_
              rintro e w9 ⟨rfl, hb9⟩
              have HV9 := Lib.hid (HV8.out.trans (hb9.mono HV8.out.size))
              have hH9 := HSKBr.out _ (Onl.of_below HV9.out (Nat.le_refl _))
              refine hK.out _ _ hH9 (fun hHeld => ?_)
              clear hK K hb9 HV8 hH9
              have HV8 := HV9
              clear HV9
              try simp only [nrm]
              refine rdL 7 rfl (fun K hK => ?_)
              go_simp
              refine (CR2Br.out _).mono ?_
              rintro e w9 ⟨rfl, hb9⟩
              have HV9 := Lib.hid (HV8.out.trans (hb9.mono HV8.out.size))
              have hH9 := HSKBr.out _ (Onl.of_below HV9.out (Nat.le_refl _))
              refine hK.out _ _ hH9 (fun hHeld => ?_)
              clear hK K hb9 HV8 hH9
              have HV8 := HV9
              clear HV9
              try simp only [nrm]
              refine rdL 8 rfl (fun K hK => ?_)
              go_simp
              refine (CJBr.out _ HV8.out).mono ?_
              rintro e WB ⟨rfl, ht, hs⟩
              have HTBr := Lib.hid ht
              have HSBr : Hid (Onl gl2 wr WB) := Lib.hid ((Onl.of_below HV8.out (Nat.le_refl _)).trans hs.onl)
              clear ht hs
              refine hK.out _ _ (HSKBr.out _ HSBr.out) (fun hHeld => ?_)
              clear hK K
              try simp only [nrm]
              refine wpAnyL_done (by kernel_rfl) ?_ _
              clear hHeld HV8 HSKBr CR1Br CR2Br CJBr
              have HPB : Hid (PcB WB gp d.m (fun r => if r < i then E r && E2 r else E r) gf gl) := Lib.hid (HPr.out.kept (HSBr.out.block gp HPr.out.lt (by omega)))
              have HKB : Hid (PcB WB gk d.m E2 gf2 gl2) := Lib.hid (HKr.out.kept (HSBr.out.block gk HKr.out.lt (by omega)))
              have HTA3 := Lib.hid (HTA2.out.onl HSBr.out (by omega))
              have HCB := Lib.hid (HCr.out.then (Chg.of_onl HSBr.out (fun _ => .inr (.inl rfl))))
              have HTB2 : Hid (Tb WB gl2 4 d.m (fun r x => G2 r x ∨ (r < i + 1 ∧ E2 r = true ∧ G r x))) := Lib.hid (HTBr.out.congr fun r x _ _ => by
                by_cases hr : r = i
                · subst hr; simp [HB12.out.2]
                · have : r < i ↔ r < i + 1 := by omega
                  simp [this, hr])
              have d3 : WB.cell? ⟨gp, i, none⟩ = some (.bool (E i)) := by
                rw [pc_cell HPB.out i hi4]; simp
              have d4 : WB.cell? ⟨gk, i, none⟩ = some (.bool (E2 i)) := pc_cell HKB.out i hi4
              rw [HB12.out.1] at d3
              rw [HB12.out.2] at d4
              clear HTBr HSBr HG2r HGr HPr HKr HCr
              have f1 : WB.frozen? ⟨gp, i, none⟩ = false := rg_frozen HPB.out
              have HN : Hid (Tb (WB.setCell ⟨gp, i, none⟩ (.bool false)) gf 4 d.m (fun r x => F r x ∨ (r < i + 1 ∧ E r = true ∧ F2 r x)) ∧ Tb (WB.setCell ⟨gp, i, none⟩ (.bool false)) gl2 4 d.m (fun r x => G2 r x ∨ (r < i + 1 ∧ E2 r = true ∧ G r x)) ∧ PcB (WB.setCell ⟨gp, i, none⟩ (.bool false)) gp d.m (fun r => if r < i + 1 then E r && E2 r else E r) gf gl ∧ Chg (fun k => k = gf ∨ k = gl2 ∨ k = gp) W9 (WB.setCell ⟨gp, i, none⟩ (.bool false))) := Lib.hid (by
                have ho : Onl gp WB (WB.setCell ⟨gp, i, none⟩ (.bool false)) := (Onl.refl _ _).setCell _ _
                refine ⟨HTA3.out.onl ho (by omega), HTB2.out.onl ho (by omega), (pc_set HPB.out i hi4 _).congr (fun r _ => ?_), HCB.out.then (Chg.of_onl ho (fun _ => .inr (.inr rfl)))⟩
                by_cases hr : r = i
                · subst hr; simp [HB12.out.1, HB12.out.2]
                · rw [if_neg hr]
                  have : r < i ↔ r < i + 1 := by omega
                  simp only [this])
              clear HTA3 HTB2 HPB HKB HCB
              go_wp2_with fail
              refine ⟨⟨i + 1, by omega, by simp, HN⟩, ?_⟩
              simp [intOf]; omega
          · go_upto_region 11 with fail
            have HSKA : Hid (∀ Z, Onl gf wr Z → Z.cell? ⟨gp, 4, none⟩ = some (.int .i64 (d.m : Int)) ∧ Z.cell? ⟨gp, 5, none⟩ = some (.slice (some ⟨gf, 0, none⟩) (4 * d.m) (4 * d.m)) ∧ Z.cell? ⟨gp, 6, none⟩ = some (.int .i64 (d.m : Int)) ∧ Z.cell? ⟨gp, 7, none⟩ = some (.slice (some ⟨gl, 0, none⟩) (4 * d.m) (4 * d.m)) ∧ Z.cell? ⟨gk, 4, none⟩ = some (.int .i64 (d.m : Int)) ∧ Z.cell? ⟨gk, 5, none⟩ = some (.slice (some ⟨gf2, 0, none⟩) (4 * d.m) (4 * d.m)) ∧ Z.cell? ⟨gk, 6, none⟩ = some (.int .i64 (d.m : Int)) ∧ Z.cell? ⟨gk, 7, none⟩ = some (.slice (some ⟨gl2, 0, none⟩) (4 * d.m) (4 * d.m))) := Lib.hid fun Z hZ => by
              have e1 := (hZ.block gp HPr.out.lt (by omega)).trans HPr.out
              have e2 := (hZ.block gk HKr.out.lt (by omega)).trans HKr.out
              exact ⟨rg_cell e1, rg_cell e1, rg_cell e1, rg_cell e1, rg_cell e2, rg_cell e2, rg_cell e2, rg_cell e2⟩
            have CR1A : Hid (∀ Z, Calls Tryz.prog 41 #[.agg #[.int .i64 (d.m : Int), .slice (some ⟨gf, 0, none⟩) (4 * d.m) (4 * d.m)], .int .i64 (i : Int)] Z fun e w' => e = .returned (.slice (some ⟨gf, rwO 4 d.m i, none⟩) d.m (4 * d.m - i * d.m)) ∧ Below Z.heap.size Z w') := Lib.hid fun Z =>
              (mrow_any gf 4 d.m i hi4 (by omega) (by omega) Z).mono fun e w' ⟨h1, h2⟩ => ⟨h1, by rw [h2]; exact (Below.refl _ _).alloc (Nat.le_refl _) _⟩
            have CR2A : Hid (∀ Z, Calls Tryz.prog 41 #[.agg #[.int .i64 (d.m : Int), .slice (some ⟨gf2, 0, none⟩) (4 * d.m) (4 * d.m)], .int .i64 (i : Int)] Z fun e w' => e = .returned (.slice (some ⟨gf2, rwO 4 d.m i, none⟩) d.m (4 * d.m - i * d.m)) ∧ Below Z.heap.size Z w') := Lib.hid fun Z =>
              (mrow_any gf2 4 d.m i hi4 (by omega) (by omega) Z).mono fun e w' ⟨h1, h2⟩ => ⟨h1, by rw [h2]; exact (Below.refl _ _).alloc (Nat.le_refl _) _⟩
            have CJA : Hid (∀ Z, Below wr.heap.size wr Z → Calls Tryz.prog 40 #[.slice (some ⟨gf, rwO 4 d.m i, none⟩) d.m (4 * d.m - i * d.m), .slice (some ⟨gf2, rwO 4 d.m i, none⟩) d.m (4 * d.m - i * d.m)] Z fun e w' => e = .returned (.tuple #[]) ∧ Tb w' gf 4 d.m (fun r x => (F r x ∨ (r < i ∧ E r = true ∧ F2 r x)) ∨ (r = i ∧ F2 i x)) ∧ Sm gf Z w') := Lib.hid fun Z hZ =>
              mjoin_any (HFr.out.next hZ) (HF2r.out.next hZ) (by omega) hi4 hi4 (by omega) (fun h => rwO_eq hi4 h) (fun h => rwO_eq hi4 h) _ _
            have HHA := HSKA.out _ (Onl.of_below (drew_below wr) (Nat.le_refl _))
            go_wp2_with fail
            refine wp_region_L (st := []) (S := fun Z => Z.cell? ⟨gp, 4, none⟩ = some (.int .i64 (d.m : Int)) ∧ Z.cell? ⟨gp, 5, none⟩ = some (.slice (some ⟨gf, 0, none⟩) (4 * d.m) (4 * d.m)) ∧ Z.cell? ⟨gp, 6, none⟩ = some (.int .i64 (d.m : Int)) ∧ Z.cell? ⟨gp, 7, none⟩ = some (.slice (some ⟨gl, 0, none⟩) (4 * d.m) (4 * d.m)) ∧ Z.cell? ⟨gk, 4, none⟩ = some (.int .i64 (d.m : Int)) ∧ Z.cell? ⟨gk, 5, none⟩ = some (.slice (some ⟨gf2, 0, none⟩) (4 * d.m) (4 * d.m)) ∧ Z.cell? ⟨gk, 6, none⟩ = some (.int .i64 (d.m : Int)) ∧ Z.cell? ⟨gk, 7, none⟩ = some (.slice (some ⟨gl2, 0, none⟩) (4 * d.m) (4 * d.m))) (by kernel_rfl) HHA (fun hHeld => ?_)
            have HV8 := Lib.hid (drew_below wr)
            clear HHA
            refine tkL 0 (v := ?_) rfl ?_ ?_
            rotate_left
            · (intro w hSw; obtain ⟨q0, q1, q2, q3, q4, q5, q6, q7⟩ := hSw; go_simp; try with_reducible rfl)
            try simp only [nrm]
            refine tkL 1 (v := ?_) rfl ?_ ?_
            rotate_left
            · (intro w hSw; obtain ⟨q0, q1, q2, q3, q4, q5, q6, q7⟩ := hSw; go_simp; try with_reducible rfl)
            try simp only [nrm]
            refine tkL 2 (v := ?_) rfl ?_ ?_
            rotate_left
            · (intro w hSw; obtain ⟨q0, q1, q2, q3, q4, q5, q6, q7⟩ := hSw; go_simp; try with_reducible rfl)
            try simp only [nrm]
            refine tkL 4 (v := ?_) rfl ?_ ?_
            rotate_left
            · (intro w hSw; obtain ⟨q0, q1, q2, q3, q4, q5, q6, q7⟩ := hSw; go_simp; try with_reducible rfl)
            try simp only [nrm]
            refine tkL 5 (v := ?_) rfl ?_ ?_
            rotate_left
            · (intro w hSw; obtain ⟨q0, q1, q2, q3, q4, q5, q6, q7⟩ := hSw; go_simp; try with_reducible rfl)
            try simp only [nrm]
            refine tkL 6 (v := ?_) rfl ?_ ?_
            rotate_left
            · (intro w hSw; obtain ⟨q0, q1, q2, q3, q4, q5, q6, q7⟩ := hSw; go_simp; try with_reducible rfl)
            try simp only [nrm]
            refine rdL 3 rfl (fun K hK => ?_)
            go_simp
            refine (CR1A.out _).mono ?_
            rintro e w9 ⟨rfl, hb9⟩
            have HV9 := Lib.hid (HV8.out.trans (hb9.mono HV8.out.size))
            have hH9 := HSKA.out _ (Onl.of_below HV9.out (Nat.le_refl _))
            refine hK.out _ _ hH9 (fun hHeld => ?_)
            clear hK K hb9 HV8 hH9
            have HV8 := HV9
            clear HV9
            try simp only [nrm]
            refine rdL 7 rfl (fun K hK => ?_)
            go_simp
            refine (CR2A.out _).mono ?_
            rintro e w9 ⟨rfl, hb9⟩
            have HV9 := Lib.hid (HV8.out.trans (hb9.mono HV8.out.size))
            have hH9 := HSKA.out _ (Onl.of_below HV9.out (Nat.le_refl _))
            refine hK.out _ _ hH9 (fun hHeld => ?_)
            clear hK K hb9 HV8 hH9
            have HV8 := HV9
            clear HV9
            try simp only [nrm]
            refine rdL 8 rfl (fun K hK => ?_)
            go_simp
            refine (CJA.out _ HV8.out).mono ?_
            rintro e WA ⟨rfl, ht, hs⟩
            have HTA := Lib.hid ht
            have HSA : Hid (Onl gf wr WA) := Lib.hid ((Onl.of_below HV8.out (Nat.le_refl _)).trans hs.onl)
            clear ht hs
            refine hK.out _ _ (HSKA.out _ HSA.out) (fun hHeld => ?_)
            clear hK K
            try simp only [nrm]
            refine wpAnyL_done (by kernel_rfl) ?_ _
            clear hHeld HV8 HSKA CR1A CR2A CJA
            have HPA : Hid (PcB WA gp d.m (fun r => if r < i then E r && E2 r else E r) gf gl) := Lib.hid (HPr.out.kept (HSA.out.block gp HPr.out.lt (by omega)))
            have HKA : Hid (PcB WA gk d.m E2 gf2 gl2) := Lib.hid (HKr.out.kept (HSA.out.block gk HKr.out.lt (by omega)))
            have HGA := Lib.hid (HGr.out.onl HSA.out (by omega))
            have HG2A := Lib.hid (HG2r.out.onl HSA.out (by omega))
            have HCA := Lib.hid (HCr.out.then (Chg.of_onl HSA.out (fun _ => .inl rfl)))
            have HTA2 : Hid (Tb WA gf 4 d.m (fun r x => F r x ∨ (r < i + 1 ∧ E r = true ∧ F2 r x))) := Lib.hid (HTA.out.congr fun r x _ _ => by
              by_cases hr : r = i
              · subst hr; simp [HB12.out.1]
              · have : r < i ↔ r < i + 1 := by omega
                simp [this, hr])
            have d1 : WA.cell? ⟨gp, i, none⟩ = some (.bool (E i)) := by
              rw [pc_cell HPA.out i hi4]; simp
            have d2 : WA.cell? ⟨gk, i, none⟩ = some (.bool (E2 i)) := pc_cell HKA.out i hi4
            rw [HB12.out.1] at d1
            rw [HB12.out.2] at d2
            clear HTA HSA HPr HKr HGr HG2r HCr HFr HF2r c1 c2
            cases b2
            · have HTB2 : Hid (Tb WA gl2 4 d.m (fun r x => G2 r x ∨ (r < i + 1 ∧ E2 r = true ∧ G r x))) := Lib.hid (HG2A.out.congr fun r x _ _ => by
                by_cases hr : r = i
                · subst hr; simp [HB12.out.2]
                · have : r < i ↔ r < i + 1 := by omega
                  simp only [this])
              clear HG2A
              have f1 : WA.frozen? ⟨gp, i, none⟩ = false := rg_frozen HPA.out
              have HN : Hid (Tb (WA.setCell ⟨gp, i, none⟩ (.bool false)) gf 4 d.m (fun r x => F r x ∨ (r < i + 1 ∧ E r = true ∧ F2 r x)) ∧ Tb (WA.setCell ⟨gp, i, none⟩ (.bool false)) gl2 4 d.m (fun r x => G2 r x ∨ (r < i + 1 ∧ E2 r = true ∧ G r x)) ∧ PcB (WA.setCell ⟨gp, i, none⟩ (.bool false)) gp d.m (fun r => if r < i + 1 then E r && E2 r else E r) gf gl ∧ Chg (fun k => k = gf ∨ k = gl2 ∨ k = gp) W9 (WA.setCell ⟨gp, i, none⟩ (.bool false))) := Lib.hid (by
                have ho : Onl gp WA (WA.setCell ⟨gp, i, none⟩ (.bool false)) := (Onl.refl _ _).setCell _ _
                refine ⟨HTA2.out.onl ho (by omega), HTB2.out.onl ho (by omega), (pc_set HPA.out i hi4 _).congr (fun r _ => ?_), HCA.out.then (Chg.of_onl ho (fun _ => .inr (.inr rfl)))⟩
                by_cases hr : r = i
                · subst hr; simp [HB12.out.1, HB12.out.2]
                · rw [if_neg hr]
                  have : r < i ↔ r < i + 1 := by omega
                  simp only [this])
              clear HTA2 HTB2 HPA HKA HCA
              go_wp2_with fail
              refine ⟨⟨i + 1, by omega, by simp, HN⟩, ?_⟩
              simp [intOf]; omega
            · go_upto_region 13 with fail
              have HSKBA : Hid (∀ Z, Onl gl2 WA Z → Z.cell? ⟨gp, 4, none⟩ = some (.int .i64 (d.m : Int)) ∧ Z.cell? ⟨gp, 5, none⟩ = some (.slice (some ⟨gf, 0, none⟩) (4 * d.m) (4 * d.m)) ∧ Z.cell? ⟨gp, 6, none⟩ = some (.int .i64 (d.m : Int)) ∧ Z.cell? ⟨gp, 7, none⟩ = some (.slice (some ⟨gl, 0, none⟩) (4 * d.m) (4 * d.m)) ∧ Z.cell? ⟨gk, 4, none⟩ = some (.int .i64 (d.m : Int)) ∧ Z.cell? ⟨gk, 5, none⟩ = some (.slice (some ⟨gf2, 0, none⟩) (4 * d.m) (4 * d.m)) ∧ Z.cell? ⟨gk, 6, none⟩ = some (.int .i64 (d.m : Int)) ∧ Z.cell? ⟨gk, 7, none⟩ = some (.slice (some ⟨gl2, 0, none⟩) (4 * d.m) (4 * d.m))) := Lib.hid fun Z hZ => by
                have e1 := (hZ.block gp HPA.out.lt (by omega)).trans HPA.out
                have e2 := (hZ.block gk HKA.out.lt (by omega)).trans HKA.out
                exact ⟨rg_cell e1, rg_cell e1, rg_cell e1, rg_cell e1, rg_cell e2, rg_cell e2, rg_cell e2, rg_cell e2⟩
              have CR1BA : Hid (∀ Z, Calls Tryz.prog 41 #[.agg #[.int .i64 (d.m : Int), .slice (some ⟨gl2, 0, none⟩) (4 * d.m) (4 * d.m)], .int .i64 (i : Int)] Z fun e w' => e = .returned (.slice (some ⟨gl2, rwO 4 d.m i, none⟩) d.m (4 * d.m - i * d.m)) ∧ Below Z.heap.size Z w') := Lib.hid fun Z =>
                (mrow_any gl2 4 d.m i hi4 (by omega) (by omega) Z).mono fun e w' ⟨h1, h2⟩ => ⟨h1, by rw [h2]; exact (Below.refl _ _).alloc (Nat.le_refl _) _⟩
              have CR2BA : Hid (∀ Z, Calls Tryz.prog 41 #[.agg #[.int .i64 (d.m : Int), .slice (some ⟨gl, 0, none⟩) (4 * d.m) (4 * d.m)], .int .i64 (i : Int)] Z fun e w' => e = .returned (.slice (some ⟨gl, rwO 4 d.m i, none⟩) d.m (4 * d.m - i * d.m)) ∧ Below Z.heap.size Z w') := Lib.hid fun Z =>
                (mrow_any gl 4 d.m i hi4 (by omega) (by omega) Z).mono fun e w' ⟨h1, h2⟩ => ⟨h1, by rw [h2]; exact (Below.refl _ _).alloc (Nat.le_refl _) _⟩
              have CJBA : Hid (∀ Z, Below WA.heap.size WA Z → Calls Tryz.prog 40 #[.slice (some ⟨gl2, rwO 4 d.m i, none⟩) d.m (4 * d.m - i * d.m), .slice (some ⟨gl, rwO 4 d.m i, none⟩) d.m (4 * d.m - i * d.m)] Z fun e w' => e = .returned (.tuple #[]) ∧ Tb w' gl2 4 d.m (fun r x => (G2 r x ∨ (r < i ∧ E2 r = true ∧ G r x)) ∨ (r = i ∧ G i x)) ∧ Sm gl2 Z w') := Lib.hid fun Z hZ =>
                mjoin_any (HG2A.out.next hZ) (HGA.out.next hZ) (by omega) hi4 hi4 (by omega) (fun h => rwO_eq hi4 h) (fun h => rwO_eq hi4 h) _ _
              have HHBA := HSKBA.out _ (Onl.of_below (drew_below WA) (Nat.le_refl _))
              go_wp2_with fail
              refine wp_region_L (st := []) (S := fun Z => Z.cell? ⟨gp, 4, none⟩ = some (.int .i64 (d.m : Int)) ∧ Z.cell? ⟨gp, 5, none⟩ = some (.slice (some ⟨gf, 0, none⟩) (4 * d.m) (4 * d.m)) ∧ Z.cell? ⟨gp, 6, none⟩ = some (.int .i64 (d.m : Int)) ∧ Z.cell? ⟨gp, 7, none⟩ = some (.slice (some ⟨gl, 0, none⟩) (4 * d.m) (4 * d.m)) ∧ Z.cell? ⟨gk, 4, none⟩ = some (.int .i64 (d.m : Int)) ∧ Z.cell? ⟨gk, 5, none⟩ = some (.slice (some ⟨gf2, 0, none⟩) (4 * d.m) (4 * d.m)) ∧ Z.cell? ⟨gk, 6, none⟩ = some (.int .i64 (d.m : Int)) ∧ Z.cell? ⟨gk, 7, none⟩ = some (.slice (some ⟨gl2, 0, none⟩) (4 * d.m) (4 * d.m))) (by kernel_rfl) HHBA (fun hHeld => ?_)
              have HV8 := Lib.hid (drew_below WA)
              clear HHBA
              refine tkL 0 (v := ?_) rfl ?_ ?_
              rotate_left
              · (intro w hSw; obtain ⟨q0, q1, q2, q3, q4, q5, q6, q7⟩ := hSw; go_simp; try with_reducible rfl)
              try simp only [nrm]
              refine tkL 1 (v := ?_) rfl ?_ ?_
              rotate_left
              · (intro w hSw; obtain ⟨q0, q1, q2, q3, q4, q5, q6, q7⟩ := hSw; go_simp; try with_reducible rfl)
              try simp only [nrm]
              refine tkL 2 (v := ?_) rfl ?_ ?_
              rotate_left
              · (intro w hSw; obtain ⟨q0, q1, q2, q3, q4, q5, q6, q7⟩ := hSw; go_simp; try with_reducible rfl)
              try simp only [nrm]
              refine tkL 4 (v := ?_) rfl ?_ ?_
              rotate_left
              · (intro w hSw; obtain ⟨q0, q1, q2, q3, q4, q5, q6, q7⟩ := hSw; go_simp; try with_reducible rfl)
              try simp only [nrm]
              refine tkL 5 (v := ?_) rfl ?_ ?_
              rotate_left
              · (intro w hSw; obtain ⟨q0, q1, q2, q3, q4, q5, q6, q7⟩ := hSw; go_simp; try with_reducible rfl)
              try simp only [nrm]
              refine tkL 6 (v := ?_) rfl ?_ ?_
              rotate_left
              · (intro w hSw; obtain ⟨q0, q1, q2, q3, q4, q5, q6, q7⟩ := hSw; go_simp; try with_reducible rfl)
              try simp only [nrm]
              refine rdL 3 rfl (fun K hK => ?_)
              go_simp
              refine (CR1BA.out _).mono ?_
              rintro e w9 ⟨rfl, hb9⟩
              have HV9 := Lib.hid (HV8.out.trans (hb9.mono HV8.out.size))
              have hH9 := HSKBA.out _ (Onl.of_below HV9.out (Nat.le_refl _))
              refine hK.out _ _ hH9 (fun hHeld => ?_)
              clear hK K hb9 HV8 hH9
              have HV8 := HV9
              clear HV9
              try simp only [nrm]
              refine rdL 7 rfl (fun K hK => ?_)
              go_simp
              refine (CR2BA.out _).mono ?_
              rintro e w9 ⟨rfl, hb9⟩
              have HV9 := Lib.hid (HV8.out.trans (hb9.mono HV8.out.size))
              have hH9 := HSKBA.out _ (Onl.of_below HV9.out (Nat.le_refl _))
              refine hK.out _ _ hH9 (fun hHeld => ?_)
              clear hK K hb9 HV8 hH9
              have HV8 := HV9
              clear HV9
              try simp only [nrm]
              refine rdL 8 rfl (fun K hK => ?_)
              go_simp
              refine (CJBA.out _ HV8.out).mono ?_
              rintro e WB ⟨rfl, ht, hs⟩
              have HTBA := Lib.hid ht
              have HSBA : Hid (Onl gl2 WA WB) := Lib.hid ((Onl.of_below HV8.out (Nat.le_refl _)).trans hs.onl)
              clear ht hs
              refine hK.out _ _ (HSKBA.out _ HSBA.out) (fun hHeld => ?_)
              clear hK K
              try simp only [nrm]
              refine wpAnyL_done (by kernel_rfl) ?_ _
              clear hHeld HV8 HSKBA CR1BA CR2BA CJBA
              have HPB : Hid (PcB WB gp d.m (fun r => if r < i then E r && E2 r else E r) gf gl) := Lib.hid (HPA.out.kept (HSBA.out.block gp HPA.out.lt (by omega)))
              have HKB : Hid (PcB WB gk d.m E2 gf2 gl2) := Lib.hid (HKA.out.kept (HSBA.out.block gk HKA.out.lt (by omega)))
              have HTA3 := Lib.hid (HTA2.out.onl HSBA.out (by omega))
              have HCB := Lib.hid (HCA.out.then (Chg.of_onl HSBA.out (fun _ => .inr (.inl rfl))))
              have HTB2 : Hid (Tb WB gl2 4 d.m (fun r x => G2 r x ∨ (r < i + 1 ∧ E2 r = true ∧ G r x))) := Lib.hid (HTBA.out.congr fun r x _ _ => by
                by_cases hr : r = i
                · subst hr; simp [HB12.out.2]
                · have : r < i ↔ r < i + 1 := by omega
                  simp [this, hr])
              have d3 : WB.cell? ⟨gp, i, none⟩ = some (.bool (E i)) := by
                rw [pc_cell HPB.out i hi4]; simp
              have d4 : WB.cell? ⟨gk, i, none⟩ = some (.bool (E2 i)) := pc_cell HKB.out i hi4
              rw [HB12.out.1] at d3
              rw [HB12.out.2] at d4
              clear HTBA HSBA HG2A HGA HPA HKA HCA
              have f1 : WB.frozen? ⟨gp, i, none⟩ = false := rg_frozen HPB.out
              have HN : Hid (Tb (WB.setCell ⟨gp, i, none⟩ (.bool true)) gf 4 d.m (fun r x => F r x ∨ (r < i + 1 ∧ E r = true ∧ F2 r x)) ∧ Tb (WB.setCell ⟨gp, i, none⟩ (.bool true)) gl2 4 d.m (fun r x => G2 r x ∨ (r < i + 1 ∧ E2 r = true ∧ G r x)) ∧ PcB (WB.setCell ⟨gp, i, none⟩ (.bool true)) gp d.m (fun r => if r < i + 1 then E r && E2 r else E r) gf gl ∧ Chg (fun k => k = gf ∨ k = gl2 ∨ k = gp) W9 (WB.setCell ⟨gp, i, none⟩ (.bool true))) := Lib.hid (by
                have ho : Onl gp WB (WB.setCell ⟨gp, i, none⟩ (.bool true)) := (Onl.refl _ _).setCell _ _
                refine ⟨HTA3.out.onl ho (by omega), HTB2.out.onl ho (by omega), (pc_set HPB.out i hi4 _).congr (fun r _ => ?_), HCB.out.then (Chg.of_onl ho (fun _ => .inr (.inr rfl)))⟩
                by_cases hr : r = i
                · subst hr; simp [HB12.out.1, HB12.out.2]
                · rw [if_neg hr]
                  have : r < i ↔ r < i + 1 := by omega
                  simp only [this])
              clear HTA3 HTB2 HPB HKB HCB
              go_wp2_with fail
              refine ⟨⟨i + 1, by omega, by simp, HN⟩, ?_⟩
              simp [intOf]; omega
        · have hii : ¬ (i : Int) < 4 := by omega
          obtain rfl : i = 4 := by omega
          obtain ⟨hE, hF, hG, hn2, hE2, hF2, hG2⟩ := HDF.out
          have HKr : PcB wr gk d.m E2 gf2 gl2 := (HR.out.2.2.2.block gk HK9.out.lt (by omega)).trans HK9.out
          have m6 : wr.cell? ⟨gk, 6, none⟩ = some (.int .i64 (d.m : Int)) := rg_cell HKr
          have m7 : wr.cell? ⟨gk, 7, none⟩ = some (.slice (some ⟨gl2, 0, none⟩) (4 * d.m) (4 * d.m)) := rg_cell HKr
          have n6 : wr.cell? ⟨gp, 6, none⟩ = some (.int .i64 (d.m : Int)) := rg_cell HR.out.2.2.1
          have n7 : wr.cell? ⟨gp, 7, none⟩ = some (.slice (some ⟨gl, 0, none⟩) (4 * d.m) (4 * d.m)) := rg_cell HR.out.2.2.1
          have f6 : wr.frozen? ⟨gp, 6, none⟩ = false := rg_frozen HR.out.2.2.1
          have f7 : wr.frozen? ⟨gp, 7, none⟩ = false := rg_frozen HR.out.2.2.1
          have HN : Hid (AltI w d n T B (empC (ks.take (j + 1))) (FstC (ks.take (j + 1)) n) (LstC (ks.take (j + 1)) n) (ks.take (j + 1)) (BhdC (ks.take (j + 1)) n) gp gf gl2 ((wr.setCell ⟨gp, 6, none⟩ (.int .i64 (d.m : Int))).setCell ⟨gp, 7, none⟩ (.slice (some ⟨gl2, 0, none⟩) (4 * d.m) (4 * d.m)))) := Lib.hid (by
            have hr := HR.out.2.2.2
            have ho : Onl gp wr ((wr.setCell ⟨gp, 6, none⟩ (.int .i64 (d.m : Int))).setCell ⟨gp, 7, none⟩ (.slice (some ⟨gl2, 0, none⟩) (4 * d.m) (4 * d.m))) := ((Onl.refl _ _).setCell _ _).setCell _ _
            have hro := hr.then (Chg.of_onl ho (fun _ => .inr (.inr rfl)))
            rw [HTK.out]
            refine ⟨⟨(HR.out.1.onl ho (by omega)).congr (fun r x hr _ => ?_), (HR.out.2.1.onl ho (by omega)).congr (fun r x hr _ => ?_), by omega, by omega, by omega⟩, ?_, ?_, HCH9.out.trans hro (fun k hk hc => by omega), HRZ9.out.kept (hro.block _ HRZ9.out.lt (by omega)), hgpl, hnf, ⟨by omega, by omega⟩⟩
            · rw [FstC_snoc, hF, hn2, hF2, hE]; simp [hr]
            · rw [LstC_snoc, hG, hn2, hG2, hE2]; simp [hr]
            · have h1 := rg_setCell (i := 6) HR.out.2.2.1 (.int .i64 (d.m : Int))
              have h2 := rg_setCell (i := 7) h1 (.slice (some ⟨gl2, 0, none⟩) (4 * d.m) (4 * d.m))
              simp only [List.setIfInBounds_toArray, List.set_cons_zero, List.set_cons_succ] at h2
              exact PcB.congr (E := fun r => if r < 4 then E r && E2 r else E r) h2 (fun r hr => by rw [empC_snoc, hE, hE2]; simp [hr])
            · have hbk : Bl _ d (n2 + leafN t) _ _ := HBL9.out.kept fun k hk hl => hro.block k hl (by
                have hzl := HBL.out.dz.lt
                rcases hk with rfl | rfl | rfl | rfl | rfl | rfl <;> omega)
              rw [HLV.out.2, ← Nat.add_assoc, hn2]
              exact hbk.congr (fun c x _ _ => by rw [TksL_snoc, hn2, or_assoc]) (fun r x _ _ => by rw [BhdC_snoc, hn2, hG, hF2]; simp only [or_assoc]) hdL)
          have kk1 : gk ≠ gp := by omega
          clear HR HKr hE hF hG hn2 hE2 hF2 hG2 HDF HLV HTK HRZ9 HCH9 HBL9 HF29 HG9 HK9
          go_wp2_with fail
          (repeat apply Exists.intro)
          refine ⟨⟨j + 1, gf, gl2, by omega, by simp, HN⟩, ?_⟩
          simp [intOf]; omega
    · have hji : ¬ (j : Int) < (ks.length : Int) := by omega
      obtain rfl : j = ks.length := by omega
      rw [List.take_length] at HI
      have e2 := HI.out.pb
      have e3 := HI.out.rz
      have k3 : w.heap.size ≠ gp := by have := HI.out.gpl; omega
      have p0 : wr.cell? ⟨gp, 0, none⟩ = some (.bool (empC ks 0)) := rg_cell e2
      have p1 : wr.cell? ⟨gp, 1, none⟩ = some (.bool (empC ks 1)) := rg_cell e2
      have p2 : wr.cell? ⟨gp, 2, none⟩ = some (.bool (empC ks 2)) := rg_cell e2
      have p3 : wr.cell? ⟨gp, 3, none⟩ = some (.bool (empC ks 3)) := rg_cell e2
      have p4 : wr.cell? ⟨gp, 4, none⟩ = some (.int .i64 (d.m : Int)) := rg_cell e2
      have p5 : wr.cell? ⟨gp, 5, none⟩ = some (.slice (some ⟨gf, 0, none⟩) (4 * d.m) (4 * d.m)) := rg_cell e2
      have p6 : wr.cell? ⟨gp, 6, none⟩ = some (.int .i64 (d.m : Int)) := rg_cell e2
      have p7 : wr.cell? ⟨gp, 7, none⟩ = some (.slice (some ⟨gl, 0, none⟩) (4 * d.m) (4 * d.m)) := rg_cell e2
      have z0 : wr.cell? ⟨w.heap.size, 0, none⟩ = some (.bool false) := rg_cell e3
      have f0 : wr.frozen? ⟨w.heap.size, 0, none⟩ = false := rg_frozen e3
      have z1 : wr.cell? ⟨w.heap.size, 1, none⟩ = some (.bool false) := rg_cell e3
      have f1 : wr.frozen? ⟨w.heap.size, 1, none⟩ = false := rg_frozen e3
      have z2 : wr.cell? ⟨w.heap.size, 2, none⟩ = some (.bool false) := rg_cell e3
      have f2 : wr.frozen? ⟨w.heap.size, 2, none⟩ = false := rg_frozen e3
      have z3 : wr.cell? ⟨w.heap.size, 3, none⟩ = some (.bool false) := rg_cell e3
      have f3 : wr.frozen? ⟨w.heap.size, 3, none⟩ = false := rg_frozen e3
      have z4 : wr.cell? ⟨w.heap.size, 4, none⟩ = some (.int .i64 0) := rg_cell e3
      have f4 : wr.frozen? ⟨w.heap.size, 4, none⟩ = false := rg_frozen e3
      have z5 : wr.cell? ⟨w.heap.size, 5, none⟩ = some (.slice none 0 0) := rg_cell e3
      have f5 : wr.frozen? ⟨w.heap.size, 5, none⟩ = false := rg_frozen e3
      have z6 : wr.cell? ⟨w.heap.size, 6, none⟩ = some (.int .i64 0) := rg_cell e3
      have f6 : wr.frozen? ⟨w.heap.size, 6, none⟩ = false := rg_frozen e3
      have z7 : wr.cell? ⟨w.heap.size, 7, none⟩ = some (.slice none 0 0) := rg_cell e3
      have f7 : wr.frozen? ⟨w.heap.size, 7, none⟩ = false := rg_frozen e3
      clear e2 e3
      go_wp2_with fail
      refine bodyPost_ret (v := pcV d.m (empC ks) gf gl) ?_ rfl ⟨gf, gl, rfl, ?_⟩
      · simp [results, Tryz.results75, go_sem, pcV, z0, z1, z2, z3, z4, z5, z6, z7]
      · show Pc (put8 wr w.heap.size d.m (empC ks) gf gl) d.m w.heap.size gf gl _ _ ∧ Bl (put8 wr w.heap.size d.m (empC ks) gf gl) d (n + leavesN ks) _ _ ∧ Chg d.own w (put8 wr w.heap.size d.m (empC ks) gf gl)
        have ho : Onl w.heap.size wr (put8 wr w.heap.size d.m (empC ks) gf gl) := put8_onl
        refine ⟨HI.out.pc.onl ho HI.out.nf.2 HI.out.nl.2, HI.out.bl.kept (fun k hk hl => ho.block k hl (by
          have hzl := HBL.out.dz.lt
          rcases hk with rfl | rfl | rfl | rfl | rfl | rfl <;> omega)), HI.out.chg.trans (Chg.of_onl (C := fun k => k = w.heap.size) ho (fun _ => rfl)) (fun k hk h => by omega)⟩
end Go.Proofs.YtmlpkimbcjkbkaaGreatDoor
