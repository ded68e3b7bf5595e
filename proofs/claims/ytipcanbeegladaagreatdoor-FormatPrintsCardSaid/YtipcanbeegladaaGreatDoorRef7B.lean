/-
  CONTRACT of the document's own answer for layer 7: wide (to the width): what it hands back; nothing that was there is written.
-/
import Derived.Test.YtipcanbeegladaaGreatDoorRef7A
namespace Go.Proofs.YtipcanbeegladaaGreatDoor
open Go.RowKit

def wideL (l45 l48 nb : Bool) (wd : Int) (sg bd : List UInt8) : List UInt8 :=
  if l45 then sg ++ bd ++ List.replicate (wd - sg.length - bd.length).toNat 32
  else if nb && l48 then sg ++ List.replicate (wd - sg.length - bd.length).toNat 48 ++ bd
  else List.replicate (wd - sg.length - bd.length).toNat 32 ++ sg ++ bd
/-- A conversion of the document's lies at these five cells. -/
def SpAt (w : World) (b : Nat) (F : ByteArray) (wd pr : Int) (v : UInt8) (nx : Int) : Prop :=
  w.cell? ⟨b, 0, none⟩ = some (.string F) ∧ w.cell? ⟨b, 1, none⟩ = some (.int .i64 wd) ∧ w.cell? ⟨b, 2, none⟩ = some (.int .i64 pr) ∧ w.cell? ⟨b, 3, none⟩ = some (.int .u8 (v.toNat : Int)) ∧ w.cell? ⟨b, 4, none⟩ = some (.int .i64 nx)
theorem SpAt.keep {w w' : World} {b : Nat} {F : ByteArray} {wd pr : Int} {v : UInt8} {nx : Int} (h : SpAt w b F wd pr v nx) (hb : Below w.heap.size w w') : SpAt w' b F wd pr v nx := by
  have k : ∀ {c o : Nat} {x : Value}, w.cell? ⟨c, o, none⟩ = some x → w'.cell? ⟨c, o, none⟩ = some x := fun h => (hb.cell (p := ⟨_, _, none⟩) (World.block_lt_of_cell? _ _ h)).trans h
  exact ⟨k h.1, k h.2.1, k h.2.2.1, k h.2.2.2.1, k h.2.2.2.2⟩
theorem ba_app (a b : ByteArray) : (a ++ b).data.toList = a.data.toList ++ b.data.toList := by rw [ByteArray.data_append, Array.toList_append]
set_option maxHeartbeats 2000000 in
set_option maxRecDepth 100000 in
theorem rwide_any (F : ByteArray) (wd pr : Int) (v : UInt8) (nx : Int) (sg bd : ByteArray) (nb : Bool) (w : World) (hF : F.size ≤ 100000) (hw : wd ≤ 10000) (hw0 : 0 ≤ wd) (hs : sg.size ≤ 10) (hb : bd.size ≤ 10000) :
    Calls Tryz.prog 39 #[spv F wd pr v nx, .string sg, .string bd, .bool nb] w fun e w' => e = .returned (.string ⟨(wideL (F.data.toList.contains 45) (F.data.toList.contains 48) nb wd sg.data.toList bd.data.toList).toArray⟩) ∧ Below w.heap.size w w' := by
  have C45 := fun W => rhas_any F wd pr v nx 45 W hF
  have C48 := fun W => rhas_any F wd pr v nx 48 W hF
  rw [show (((45 : UInt8).toNat : Nat) : Int) = 45 from rfl] at C45
  rw [show (((48 : UInt8).toNat : Nat) : Int) = 48 from rfl] at C48
  obtain ⟨n, hn⟩ : ∃ n : Int, wd - (sg.size : Int) - (bd.size : Int) = n := ⟨_, rfl⟩
  have M32 := fun W => rmany_any 32 n W (by omega) (by omega)
  have M48 := fun W => rmany_any 48 n W (by omega) (by omega)
  rw [show (((32 : UInt8).toNat : Nat) : Int) = 32 from rfl] at M32
  rw [show (((48 : UInt8).toNat : Nat) : Int) = 48 from rfl] at M48
  unfold spv at *
  have hm32 : (⟨(List.replicate n.toNat (32 : UInt8)).toArray⟩ : ByteArray).size ≤ 10000 := by show (List.replicate n.toNat (32 : UInt8)).toArray.size ≤ _; simp; omega
  have hm48 : (⟨(List.replicate n.toNat (48 : UInt8)).toArray⟩ : ByteArray).size ≤ 10000 := by show (List.replicate n.toNat (48 : UInt8)).toArray.size ≤ _; simp; omega
  have hd32 : (⟨(List.replicate n.toNat (32 : UInt8)).toArray⟩ : ByteArray).data.toList = List.replicate n.toNat 32 := by simp
  have hd48 : (⟨(List.replicate n.toNat (48 : UInt8)).toArray⟩ : ByteArray).data.toList = List.replicate n.toNat 48 := by simp
  generalize (⟨(List.replicate n.toNat (32 : UInt8)).toArray⟩ : ByteArray) = B32 at *
  generalize (⟨(List.replicate n.toNat (48 : UInt8)).toArray⟩ : ByteArray) = B48 at *
  have hlen : (wd - (sg.data.toList.length : Int) - (bd.data.toList.length : Int)).toNat = n.toNat := by
    have e1 : sg.data.toList.length = sg.size := by simp
    have e2 : bd.data.toList.length = bd.size := by simp
    rw [e1, e2, hn]
  unfold wideL
  rw [hlen, ← hd32, ← hd48]
  generalize F.data.toList.contains 45 = b45 at *
  generalize F.data.toList.contains 48 = b48 at *
  have fin : ∀ (a b c : ByteArray) (l : List UInt8), l = a.data.toList ++ b.data.toList ++ c.data.toList → a ++ b ++ c = ⟨l.toArray⟩ := fun a b c l h => WideShapes.bytes_inj (by rw [ba_app, ba_app, h])
  have FIN := Lib.hid fin
  have C45 := Lib.hid C45
  have C48 := Lib.hid C48
  have M32 := Lib.hid M32
  have M48 := Lib.hid M48
  have hs2 : (sg.size : Int) ≤ 10 := by omega
  have hb2 : (bd.size : Int) ≤ 10000 := by omega
  have h322 : (B32.size : Int) ≤ 10000 := by omega
  have h482 : (B48.size : Int) ≤ 10000 := by omega
  clear fin hlen hd32 hd48
  have hS : SpAt (w.alloc (.cells #[.string F, .int .i64 wd, .int .i64 pr, .int .u8 (v.toNat : Int), .int .i64 nx] 46)) w.heap.size F wd pr v nx := by
    refine ⟨?_, ?_, ?_, ?_, ?_⟩ <;> simp [go_sem]
  have HB0 := Lib.hid ((Below.refl w.heap.size w).alloc (Nat.le_refl _) (.cells #[.string F, .int .i64 wd, .int .i64 pr, .int .u8 (v.toNat : Int), .int .i64 nx] 46))
  go_enter Tryz.func39, Tryz.ntmps39
  go_wp2_with fail
  generalize w.alloc (.cells #[.string F, .int .i64 wd, .int .i64 pr, .int .u8 (v.toNat : Int), .int .i64 nx] 46) = w1 at *
  refine (C45.out _).mono ?_
  rintro e w2 ⟨rfl, hb2'⟩
  have hS2 := hS.keep hb2'
  have HB2 := Lib.hid (HB0.out.trans (hb2'.mono HB0.out.size))
  clear hS hb2' HB0
  obtain ⟨s0, s1, s2, s3, s4⟩ := hS2
  cases b45
  · cases nb
    · go_wp2_with fail
      refine (M32.out _).mono ?_
      rintro e w3 ⟨rfl, hb3⟩
      have HB3 := Lib.hid (HB2.out.trans (hb3.mono HB2.out.size))
      clear hb3
      go_wp2_with fail
      go_ret
      exact ⟨ret_s (FIN.out _ _ _ _ (by simp)), HB3.out⟩
    · go_wp2_with fail
      refine (C48.out _).mono ?_
      rintro e w4 ⟨rfl, hb4⟩
      have HB4 := Lib.hid (HB2.out.trans (hb4.mono HB2.out.size))
      clear hb4
      cases b48
      · go_wp2_with fail
        refine (M32.out _).mono ?_
        rintro e w3 ⟨rfl, hb3⟩
        have HB3 := Lib.hid (HB4.out.trans (hb3.mono HB4.out.size))
        clear hb3
        go_wp2_with fail
        go_ret
        exact ⟨ret_s (FIN.out _ _ _ _ (by simp)), HB3.out⟩
      · go_wp2_with fail
        refine (M48.out _).mono ?_
        rintro e w3 ⟨rfl, hb3⟩
        have HB3 := Lib.hid (HB4.out.trans (hb3.mono HB4.out.size))
        clear hb3
        go_wp2_with fail
        go_ret
        exact ⟨ret_s (FIN.out _ _ _ _ (by simp)), HB3.out⟩
  · go_wp2_with fail
    refine (M32.out _).mono ?_
    rintro e w3 ⟨rfl, hb3⟩
    have HB3 := Lib.hid (HB2.out.trans (hb3.mono HB2.out.size))
    clear hb3
    go_wp2_with fail
    go_ret
    exact ⟨ret_s (FIN.out _ _ _ _ (by simp)), HB3.out⟩
theorem wide_fill (c : Cv) (nb : Bool) (sg bd : List UInt8) (h : nb = takesN c) : wideL c.left c.noughts nb (c.width : Int) sg bd = fillL c sg bd := by
  unfold wideL fillL
  have e : ((c.width : Int) - (sg.length : Int) - (bd.length : Int)).toNat = c.width - sg.length - bd.length := by omega
  rw [e, h, Bool.and_comm]
end Go.Proofs.YtipcanbeegladaaGreatDoor
