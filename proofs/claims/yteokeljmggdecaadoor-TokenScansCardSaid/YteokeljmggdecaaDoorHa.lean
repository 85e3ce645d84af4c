/- Tokens over plain lists of bytes: scanning, printing; no program. -/
import Init.Data.List.Lemmas
import Init.Data.UInt.Lemmas
namespace Go.Proofs.YteokeljmggdecaaDoor

/-! ### bytes -/
def dgB (c : UInt8) : Bool := decide (48 ≤ c.toNat) && decide (c.toNat ≤ 57)
def ltB (c : UInt8) : Bool := (decide (65 ≤ c.toNat) && decide (c.toNat ≤ 90)) || (decide (97 ≤ c.toNat) && decide (c.toNat ≤ 122)) || c == 95
def wdB (c : UInt8) : Bool := ltB c || dgB c
def visB (c : UInt8) : Bool := decide (32 ≤ c.toNat) && decide (c.toNat ≤ 126)
def conB (c : UInt8) : Bool := c == 10 || visB c
def blB (c : UInt8) : Bool := c == 32 || c == 9 || c == 10

/-! ### keywords and marks -/
def kwL : List (List UInt8) := [[105, 109, 112, 111, 114, 116], [99, 108, 97, 115, 115], [105, 110, 116, 101, 114, 102, 97, 99, 101], [101, 120, 116, 101, 110, 100, 115],
  [105, 109, 112, 108, 101, 109, 101, 110, 116, 115], [102, 117, 110, 99], [118, 97, 114], [114, 101, 116, 117, 114, 110], [105, 102], [101, 108, 115, 101], [119, 104, 105, 108, 101],
  [110, 101, 119], [116, 114, 117, 101], [102, 97, 108, 115, 101], [110, 117, 108, 108], [116, 104, 105, 115]]
def mkL : List (List UInt8) := [[123], [125], [40], [41], [59], [44], [58], [46], [61], [61, 61], [33, 61], [60], [62], [43], [45], [42], [47], [37], [33], [38, 38], [124, 124]]
def isKw (t : List UInt8) : Bool := kwL.contains t
def isMk (t : List UInt8) : Bool := mkL.contains t

/-- A token. -/
structure Tk where
  kind : Int
  text : List UInt8
  at_ : Int
  en : Int

/-! ### what a token is -/
def nameS (t : List UInt8) : Bool := !t.isEmpty && !dgB (t.headD 0) && t.all wdB && !isKw t
def formS (k : Int) (t : List UInt8) : Bool :=
  if k = 1 ∨ k = 6 ∨ k = 7 then nameS t
  else if k = 2 then isKw t
  else if k = 3 then t == [48] || (!t.isEmpty && !(t.headD 0 == 48) && t.all dgB)
  else if k = 4 then t.all conB
  else if k = 5 then isMk t
  else false
def longS (k : Int) : Nat := if k = 3 then 9 else if k = 4 then 60 else 24
/-- The error of a token: 0, 11 (no token) or 4 (too long). -/
def faultS (k : Int) (t : List UInt8) : Int := if formS k t = false then 11 else if longS k < t.length then 4 else 0
def rightS (k : Int) (t : List UInt8) : Bool := faultS k t == 0

/-! ### printing -/
def writeS (c : UInt8) : List UInt8 := if c = 34 then [92, 34] else if c = 92 then [92, 92] else if c = 10 then [92, 110] else [c]
def bodyS (t : List UInt8) : List UInt8 := t.flatMap writeS
def quoteS (t : List UInt8) : List UInt8 := 34 :: (bodyS t ++ [34])
def tokP (k : Int) (t : List UInt8) : List UInt8 := if k = 4 then quoteS t else if k = 6 then 36 :: t else if k = 7 then 36 :: 36 :: t else t
def joinS : List (List UInt8) → List UInt8
  | [] => []
  | [x] => x
  | x :: y :: l => x ++ 32 :: joinS (y :: l)
def printS (l : List Tk) : List UInt8 := joinS (l.map fun t => tokP t.kind t.text)
def allRight (l : List Tk) : Bool := l.all fun t => rightS t.kind t.text

/-! ### the beginning of a string -/
/-- What follows the quotation mark: the contents and the bytes that they occupy with the mark at the end. -/
def litS : List UInt8 → Option (List UInt8 × Nat)
  | [] => none
  | c :: r =>
    if c = 34 then some ([], 1)
    else if c = 92 then
      match r with
      | [] => none
      | e :: r' => if e = 34 ∨ e = 92 then (litS r').map fun x => (e :: x.1, x.2 + 2)
        else if e = 110 then (litS r').map fun x => (10 :: x.1, x.2 + 2) else none
    else if visB c then (litS r).map fun x => (c :: x.1, x.2 + 1) else none
def wordS (r : List UInt8) : List UInt8 := r.takeWhile wdB
def intS (r : List UInt8) : List UInt8 := r.takeWhile dgB
/-- What stands at the beginning: its kind, its text, and how many bytes it occupies; what is no token has an error by faultS. -/
def preS (pat : Bool) (r : List UInt8) : Int × List UInt8 × Nat :=
  let c := r.headD 0
  if dgB c then (3, intS r, (intS r).length)
  else if ltB c then (if isKw (wordS r) then 2 else 1, wordS r, (wordS r).length)
  else if c = 34 then
    match litS r.tail with
    | none => (0, [], 0)
    | some x => (4, x.1, x.2 + 1)
  else if pat = true ∧ c = 36 then
    if r.tail.headD 0 = 36 then (7, wordS (r.drop 2), 2 + (wordS (r.drop 2)).length)
    else (6, wordS r.tail, 1 + (wordS r.tail).length)
  else if 2 ≤ r.length ∧ isMk (r.take 2) = true then (5, r.take 2, 2)
  else (5, r.take 1, 1)

/-- What is left behind blanks and comments; in a comment, where m is true. -/
def skB : Bool → List UInt8 → List UInt8
  | _, [] => []
  | false, c :: r => if blB c then skB false r else if c = 47 ∧ r.head? = some 47 then skB true r else c :: r
  | true, c :: r => if c = 10 then skB false r else skB true r
abbrev skS (r : List UInt8) : List UInt8 := skB false r

/-- The tokens of r, which has no blanks at its beginning, behind n tokens of a string of D bytes; or the offset and the error. -/
def scanF : Nat → Bool → Nat → Nat → List UInt8 → Except (Nat × Int) (List Tk)
  | 0, _, _, _, _ => .ok []
  | _ + 1, _, _, _, [] => .ok []
  | k + 1, pat, D, n, c :: r =>
    let x := preS pat (c :: r)
    let a := D - (r.length + 1)
    if faultS x.1 x.2.1 ≠ 0 then .error (a, faultS x.1 x.2.1)
    else if 600 ≤ n then .error (a, 4)
    else match scanF k pat D (n + 1) (skS ((c :: r).drop x.2.2)) with
      | .error e => .error e
      | .ok l => .ok (⟨x.1, x.2.1, (a : Int), ((a + x.2.2 : Nat) : Int)⟩ :: l)
def scanS (pat : Bool) (d : List UInt8) : Except (Nat × Int) (List Tk) := scanF (d.length + 1) pat d.length 0 (skS d)

def sameS (a b : List Tk) : Bool := (a.map fun t => (t.kind, t.text)) == (b.map fun t => (t.kind, t.text))

end Go.Proofs.YteokeljmggdecaaDoor
