/-
  MATHEMATICS of layer 7: what a conversion is, how a value is printed by one, what Print answers: plain lists and numbers, of no program.
-/
import Derived.Test.YtipcanbeegladaaGreatDoorNumM
namespace Go.Proofs.YtipcanbeegladaaGreatDoor
open Go.Lib

/-- A conversion. -/
structure Cv where
  left : Bool
  noughts : Bool
  plus : Bool
  blank : Bool
  width : Nat
  prec : Nat
  precise : Bool
  kind : UInt8
def isF (c : UInt8) : Bool := [(45 : UInt8), 48, 43, 32].contains c
def kindL : List UInt8 := [100, 105, 120, 102, 115, 99, 37]
def num1 (l : List UInt8) : Nat := l.foldl (fun n c => min (n * 10 + (c.toNat - 48)) 1001) 0
def hasF (l : List UInt8) (c : UInt8) : Bool := (l.takeWhile isF).contains c
def restF (l : List UInt8) : List UInt8 := l.dropWhile isF
def dotL (l : List UInt8) : Bool := decide (l.head? = some 46)
def cR1 (l : List UInt8) : List UInt8 := (restF l).dropWhile isD
def cW (l : List UInt8) : Nat := num1 ((restF l).takeWhile isD)
def cP (l : List UInt8) : Nat := if dotL (cR1 l) then num1 (((cR1 l).drop 1).takeWhile isD) else 0
def cR2 (l : List UInt8) : List UInt8 := if dotL (cR1 l) then ((cR1 l).drop 1).dropWhile isD else cR1 l
def cvOf (l : List UInt8) : Cv := ⟨hasF l 45, hasF l 48, hasF l 43, hasF l 32, cW l, cP l, dotL (cR1 l), (cR2 l).headD 0⟩
def cvT (l : List UInt8) : List UInt8 := (cR2 l).drop 1
def cvE (l : List UInt8) : Int := if 1000 < cW l ∨ 1000 < cP l then 12 else if (cR2 l).head?.any (kindL.contains ·) then 0 else 16

theorem num1_le (l : List UInt8) : num1 l ≤ 1001 := by
  induction l using snocInd with
  | h0 => decide
  | h1 l c ih => unfold num1 at *; rw [List.foldl_append]; exact Nat.min_le_right _ _
theorem num1_snoc (l : List UInt8) (c : UInt8) : num1 (l ++ [c]) = min (num1 l * 10 + (c.toNat - 48)) 1001 := by unfold num1; rw [List.foldl_append]; rfl
theorem dropW_len (p : UInt8 → Bool) (l : List UInt8) : (l.dropWhile p).length ≤ l.length := (List.dropWhile_sublist p).length_le
theorem cR1_len (l : List UInt8) : (cR1 l).length ≤ l.length := Nat.le_trans (dropW_len _ _) (dropW_len _ _)
theorem cR2_len (l : List UInt8) : (cR2 l).length ≤ l.length := by
  unfold cR2; split
  · exact Nat.le_trans (dropW_len _ _) (Nat.le_trans (by simp) (cR1_len l))
  · exact cR1_len l
theorem cvT_len (l : List UInt8) : (cvT l).length ≤ l.length := by
  unfold cvT; rw [List.length_drop]; have := cR2_len l; omega

/-- A value: its number and its text as the language has them, and whether it is of the kind Num. -/
structure Va where
  isN : Bool
  n : Int
  s : List UInt8
def noneV : Va := ⟨false, 0, []⟩
def signL (c : Cv) (below : Bool) : List UInt8 := if below then [45] else if c.plus then [43] else if c.blank then [32] else []
def takesN (c : Cv) : Bool := if c.kind = 115 then false else if c.kind = 99 then false else if c.kind = 102 then true else !c.precise
def fillL (c : Cv) (sign body : List UInt8) : List UInt8 :=
  if c.left then sign ++ body ++ List.replicate (c.width - sign.length - body.length) 32
  else if c.noughts && takesN c then sign ++ List.replicate (c.width - sign.length - body.length) 48 ++ body
  else List.replicate (c.width - sign.length - body.length) 32 ++ sign ++ body
def hexC (d : Nat) : UInt8 := if d < 10 then UInt8.ofNat (48 + d) else UInt8.ofNat (87 + d)
def hexN : Nat → Nat → List UInt8
  | 0, _ => []
  | f + 1, u => if u < 16 then [hexC u] else hexN f (u / 16) ++ [hexC (u % 16)]
def hexL (u : Nat) : List UInt8 := hexN 17 u
def natL (c : Cv) (n : Nat) : List UInt8 := if n = 0 then [] else if c.kind = 120 then hexL n else decDigits n
def digitsL (c : Cv) (n : Int) : List UInt8 := List.replicate ((if c.precise then c.prec else 1) - (natL c n.natAbs).length) 48 ++ natL c n.natAbs
def wantP (c : Cv) : Nat := if c.precise then c.prec else 6
def placesL (c : Cv) (n : Int) : List UInt8 :=
  decDigits (n.natAbs / 1000000) ++ (if wantP c = 0 then [] else 46 :: ((six (n.natAbs % 1000000) ++ List.replicate (wantP c - 6) 48).take (wantP c)))
def charL (v : Va) : List UInt8 := if v.isN then [UInt8.ofNat ((v.n.tdiv 1000000) % 256).toNat] else v.s.take 1
def strL (c : Cv) (v : Va) : List UInt8 := if c.precise then v.s.take c.prec else v.s
def oneL (c : Cv) (v : Va) : List UInt8 :=
  if c.kind = 115 then fillL c [] (strL c v)
  else if c.kind = 99 then fillL c [] (charL v)
  else if c.kind = 102 then fillL c (signL c (decide (v.n < 0))) (placesL c v.n)
  else fillL c (signL c (decide (v.n.tdiv 1000000 < 0))) (digitsL c (v.n.tdiv 1000000))

/-- What Print answers: the format that is left, the result so far, the values that are left. -/
def printG : Nat → List UInt8 → List UInt8 → List Va → List UInt8 × Int
  | 0, _, out, _ => (out, 0)
  | _ + 1, [], out, _ => if 4000 < out.length then ([], 12) else (out, 0)
  | f + 1, c :: r, out, vs =>
    if c ≠ 37 then printG f r (out ++ [c]) vs
    else if cvE r ≠ 0 then ([], cvE r)
    else if (cvOf r).kind = 37 then printG f (cvT r) (out ++ [37]) vs
    else if 4000 < (out ++ oneL (cvOf r) (vs.headD noneV)).length then ([], 12)
    else printG f (cvT r) (out ++ oneL (cvOf r) (vs.headD noneV)) vs.tail
/-- Enough rounds are enough. -/
theorem printG_more : ∀ (f g : Nat) (l out : List UInt8) (vs : List Va), l.length < f → l.length < g → printG f l out vs = printG g l out vs
  | 0, _, l, _, _, h, _ => by omega
  | _, 0, l, _, _, _, h => by omega
  | f + 1, g + 1, [], out, vs, _, _ => by simp only [printG]
  | f + 1, g + 1, c :: r, out, vs, h1, h2 => by
    simp only [List.length_cons] at h1 h2
    have hl := cvT_len r
    simp only [printG]
    rw [printG_more f g r _ _ (by omega) (by omega), printG_more f g (cvT r) _ _ (by omega) (by omega), printG_more f g (cvT r) _ _ (by omega) (by omega)]
def printL (l out : List UInt8) (vs : List Va) : List UInt8 × Int := printG (l.length + 1) l out vs
theorem printL_nil (out : List UInt8) (vs : List Va) : printL [] out vs = if 4000 < out.length then ([], 12) else (out, 0) := rfl
theorem printL_cons (c : UInt8) (r out : List UInt8) (vs : List Va) : printL (c :: r) out vs =
    if c ≠ 37 then printL r (out ++ [c]) vs
    else if cvE r ≠ 0 then ([], cvE r)
    else if (cvOf r).kind = 37 then printL (cvT r) (out ++ [37]) vs
    else if 4000 < (out ++ oneL (cvOf r) (vs.headD noneV)).length then ([], 12)
    else printL (cvT r) (out ++ oneL (cvOf r) (vs.headD noneV)) vs.tail := by
  have hl := cvT_len r
  unfold printL
  conv => lhs; unfold printG
  simp only [List.length_cons]
  rw [printG_more (r.length + 1) ((cvT r).length + 1) (cvT r) _ _ (by omega) (by omega), printG_more (r.length + 1) ((cvT r).length + 1) (cvT r) _ _ (by omega) (by omega)]
end Go.Proofs.YtipcanbeegladaaGreatDoor
